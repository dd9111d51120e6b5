/-
  Cells: Find (the program), where every group that is named while a key is moving is there.
-/
import Derived.Test.YtflnjlbafchnaaaGreatDoorWCh4
namespace Go.Proofs.YtflnjlbafchnaaaGreatDoor
open Go.RowKit

theorem gdrew {w : World} {R : Nat} {o : Obj} (h : w.heap[R]? = some o) : w.drew.heap[R]? = some o := h

theorem hput3 {w : World} {R : Nat} {t : TypeId} {p0 p1 p2 x0 x1 x2 : Value} (h : w.heap[R]? = some (.cells #[p0, p1, p2] t (0, 0))) : (((w.setCell ⟨R, 0, none⟩ x0).setCell ⟨R, 1, none⟩ x1).setCell ⟨R, 2, none⟩ x2).heap[R]? = some (.cells #[x0, x1, x2] t (0, 0)) := by
  have h0 := blk_set h 0 x0
  have h1 := blk_set h0 1 x1
  have h2 := blk_set h1 2 x2
  simpa using h2
def FindPost (w : World) (key : List UInt8) (F : Nat × List UInt8 × Nat) (e : Ending) (w' : World) : Prop := e = .returned (.tuple #[.int .i64 F.1, prV key F.2.1 F.2.2, .bool (!decide (F.2.1 = [] ∧ F.2.2 = 0))]) ∧ Kept Nil w w'
set_option maxRecDepth 100000 in
set_option maxHeartbeats 4000000 in
theorem cfind_any (key : List UInt8) (ms : List (List Pr)) (mo : Option Addr) (mc : Nat) (w : World) (h : MRow w mo ms) (hk : key.length ≤ 1000) (hlen : ms.length ≤ 1000000000) (hw : 14 ≤ w.heap.size) (hgl : ∀ g, (sayM key ms g).s = 1 → (sayM key ms g).g ≤ ms.length) (hL : LW w) :
    Calls Tryz.prog 34 #[.slice mo ms.length mc, .string (bs key)] w (FindPost w key (findG (sayM key ms) ms.length ms.length 1)) := by
  obtain ⟨F, HF⟩ : ∃ F, Hid (F = findG (sayM key ms) ms.length ms.length 1) := ⟨_, rfl⟩
  rw [← HF.out]
  obtain ⟨W, hW⟩ : ∃ W, W = w.alloc (.cells #[.string ⟨#[]⟩, .string ⟨#[]⟩, .int .i64 0] 63) := ⟨_, rfl⟩
  obtain ⟨R, HRe⟩ : ∃ A, Hid (A = w.heap.size) := ⟨_, rfl⟩
  have KW : Hid (Kept Nil w W) := by rw [hW]; exact (Kept.refl _ _).alloc _
  have HR : Hid (W.heap[R]? = some (.cells #[.string ⟨#[]⟩, .string ⟨#[]⟩, .int .i64 0] 63 (0, 0))) := by rw [hW, HRe.out]; exact blk_new _ _
  have HRw : Hid (w.heap.size ≤ R) := by show _ ≤ _; rw [HRe.out]; exact Nat.le_refl _
  have HM : Hid (MRow w mo ms) := h
  have HLw : Hid (LW w) := hL
  have HGL : Hid (∀ g, (sayM key ms g).s = 1 → (sayM key ms g).g ≤ ms.length) := hgl
  obtain ⟨n, hn⟩ : ∃ n, n = ms.length := ⟨_, rfl⟩
  have Hn : Hid (n = ms.length) := hn
  rw [← hn] at hlen HF HGL ⊢
  clear h hL hn hgl
  go_enter Tryz.func34, Tryz.ntmps34
  go_upto_region 1 with fail
  rw [← hW, ← HRe.out]
  clear hW
  go_wp2
  go_loopw [8, 15] (fun x i wr => ∃ k at' : Nat, k ≤ n ∧ 1 ≤ at' ∧ x = .int .i64 at' ∧ i = .int .i64 k ∧ Hid (F = findG (sayM key ms) n (n - k) at') ∧ Hid (Kept Nil w wr) ∧ Hid (wr.heap[R]? = some (.cells #[.string ⟨#[]⟩, .string ⟨#[]⟩, .int .i64 0] 63 (0, 0)))) (fun _ i _ => n - (intOf i).toNat)
  case atStart => exact ⟨0, 1, Nat.zero_le _, Nat.le_refl _, rfl, rfl, HF.out, KW.out, HR.out⟩
  case round =>
    obtain ⟨k, at', hkn, ha1, rfl, rfl, HI, HK, HRr⟩ := hrel
    clear HF HR
    rename World => wr
    by_cases hlt : k < n
    · have HS := chas_any at' n mo mc wr
      by_cases ca : at' ≤ n
      · rw [decide_eq_true ca] at HS
        have SY := say_any key ms mo mc at' wr (HM.out.kept HK.out) hk ha1 (by have := Hn.out; omega) (by have := Hn.out; omega) (Nat.le_trans hw HK.out.size) (HLw.out.kept HK.out)
        rw [← Hn.out] at SY
        obtain ⟨c, Hc⟩ : ∃ c, Hid (c = sayM key ms at') := ⟨_, rfl⟩
        rw [← Hc.out] at SY
        have HOK : Hid c.Ok := by rw [Hc.out]; exact sayM_ok _ _ _
        have HI2 : Hid (F = if handed (sayM key ms) n c = true then findG (sayM key ms) n (n - (k + 1)) c.g else (at', c.v, c.n)) := by
          show _ = _
          rw [HI.out, show n - k = (n - (k + 1)) + 1 by omega, Hc.out]
          conv => lhs; unfold findG
          rw [if_neg (by omega)]
        clear HI
        go_wp2_with fail
        go_fit HS
        rintro _ wq ⟨rfl, hwq⟩
        rw [hwq]
        clear hwq wq
        go_wp2_with fail
        go_fit SY
        rintro _ w1 ⟨rfl, k1⟩
        have K1 : Hid (Kept Nil w w1) := HK.out.trans k1
        have HR1 : Hid (w1.heap[R]? = some (.cells #[.string ⟨#[]⟩, .string ⟨#[]⟩, .int .i64 0] 63 (0, 0))) := k1.block _ _ HRr.out (fun x => x)
        clear k1 SY HS
        unfold ceV
        obtain ⟨V, hV⟩ : ∃ V, V = w1.alloc (.cells #[.string (bs c.v), .int .i64 c.n, .int .i64 c.s, .int .i64 c.h, .int .i64 c.g] 131) := ⟨_, rfl⟩
        obtain ⟨B, HBe⟩ : ∃ A, Hid (A = w1.heap.size) := ⟨_, rfl⟩
        have KV : Hid (Kept Nil w V) := by rw [hV]; exact K1.out.alloc _
        have HB : Hid (CeAt V B c) := by rw [hV, HBe.out]; exact blk_new _ _
        have HRV : Hid (V.heap[R]? = some (.cells #[.string ⟨#[]⟩, .string ⟨#[]⟩, .int .i64 0] 63 (0, 0))) := by rw [hV]; exact blk_past HR1.out _
        have HD := handed_any key ms mo mc c HOK.out V (HM.out.kept KV.out) hk (by have := Hn.out; omega) (Nat.le_trans hw KV.out.size) (by rw [← Hn.out, Hc.out]; exact HGL.out at') (HLw.out.kept KV.out)
        rw [← Hn.out] at HD
        obtain ⟨y, Hy⟩ : ∃ y, Hid (y = handed (sayM key ms) n c) := ⟨_, rfl⟩
        rw [← Hy.out] at HD HI2
        unfold ceV at HD
        have b0 : V.cell? ⟨B, 0, none⟩ = some (.string (bs c.v)) := blk_at HB.out 0 rfl
        have b1 : V.cell? ⟨B, 1, none⟩ = some (.int .i64 c.n) := blk_at HB.out 1 rfl
        have b2 : V.cell? ⟨B, 2, none⟩ = some (.int .i64 c.s) := blk_at HB.out 2 rfl
        have b3 : V.cell? ⟨B, 3, none⟩ = some (.int .i64 c.h) := blk_at HB.out 3 rfl
        have b4 : V.cell? ⟨B, 4, none⟩ = some (.int .i64 c.g) := blk_at HB.out 4 rfl
        go_upto_region 7 with fail
        rw [← hV, ← HBe.out]
        clear hV
        go_wp2_with fail
        go_fit HD
        rintro _ w2 ⟨rfl, k2⟩
        have K2 : Hid (Kept Nil w w2) := KV.out.trans k2
        have HB2 : Hid (CeAt w2 B c) := k2.block _ _ HB.out (fun x => x)
        have HR2 : Hid (w2.heap[R]? = some (.cells #[.string ⟨#[]⟩, .string ⟨#[]⟩, .int .i64 0] 63 (0, 0))) := k2.block _ _ HRV.out (fun x => x)
        clear k2 HD b0 b1 b2 b3 b4
        have d0 : w2.cell? ⟨B, 0, none⟩ = some (.string (bs c.v)) := blk_at HB2.out 0 rfl
        have d1 : w2.cell? ⟨B, 1, none⟩ = some (.int .i64 c.n) := blk_at HB2.out 1 rfl
        have d4 : w2.cell? ⟨B, 4, none⟩ = some (.int .i64 c.g) := blk_at HB2.out 4 rfl
        cases y with
        | true =>
          have HI3 : Hid (F = findG (sayM key ms) n (n - (k + 1)) c.g) := HI2.out
          have hg1 : 1 ≤ c.g := by
            refine (HOK.out.g1 (fun e => ?_)).1
            have := Hy.out
            unfold handed at this
            simp [e] at this
          go_wp2
          go_roundw
          case rel => exact ⟨k + 1, c.g, by omega, hg1, rfl, by go_num, HI3.out, K2.out, HR2.out⟩
          case measure => simp [intOf]; omega
        | false =>
          have HI3 : Hid (F = (at', c.v, c.n)) := HI2.out
          have PA := pair_any c.v c.n key w2
          unfold ctV at PA
          go_wp2_with fail
          go_fit PA
          rintro _ w3 ⟨rfl, k3⟩
          have K3 : Hid (Kept Nil w w3) := K2.out.trans k3
          have HR3 : Hid (w3.heap[R]? = some (.cells #[.string ⟨#[]⟩, .string ⟨#[]⟩, .int .i64 0] 63 (0, 0))) := k3.block _ _ HR2.out (fun x => x)
          clear k3 PA d0 d1 d4
          obtain ⟨p, q, t, hp⟩ : ∃ p q t, prV key c.v c.n = .agg #[.string p, .string q, .int .i64 t] := by
            unfold prV
            split
            · exact ⟨_, _, _, rfl⟩
            · exact ⟨_, _, _, rfl⟩
          have HP : Hid (prV key c.v c.n = .agg #[.string p, .string q, .int .i64 t]) := hp
          rw [hp]
          clear hp
          obtain ⟨U, hU⟩ : ∃ U, U = w3.alloc (.cells #[.string p, .string q, .int .i64 t] 63) := ⟨_, rfl⟩
          obtain ⟨G, HGe⟩ : ∃ A, Hid (A = w3.heap.size) := ⟨_, rfl⟩
          have KU : Hid (Kept Nil w U) := by rw [hU]; exact K3.out.alloc _
          have HGb : Hid (U.heap[G]? = some (.cells #[.string p, .string q, .int .i64 t] 63 (0, 0))) := by rw [hU, HGe.out]; exact blk_new _ _
          have HRU : Hid (U.heap[R]? = some (.cells #[.string ⟨#[]⟩, .string ⟨#[]⟩, .int .i64 0] 63 (0, 0))) := by rw [hU]; exact blk_past HR3.out _
          have hGR : G ≠ R := by rw [HGe.out]; have := lt_of_block HR3.out; omega
          have hRG : R ≠ G := fun e => hGR e.symm
          have e0 : U.cell? ⟨G, 0, none⟩ = some (.string p) := blk_at HGb.out 0 rfl
          have e1 : U.cell? ⟨G, 1, none⟩ = some (.string q) := blk_at HGb.out 1 rfl
          have e2 : U.cell? ⟨G, 2, none⟩ = some (.int .i64 t) := blk_at HGb.out 2 rfl
          have x0 : U.cell? ⟨R, 0, none⟩ = some (.string ⟨#[]⟩) := blk_at HRU.out 0 rfl
          have x1 : U.cell? ⟨R, 1, none⟩ = some (.string ⟨#[]⟩) := blk_at HRU.out 1 rfl
          have x2 : U.cell? ⟨R, 2, none⟩ = some (.int .i64 0) := blk_at HRU.out 2 rfl
          have f0 := blk_free HRU.out 0
          have f1 := blk_free HRU.out 1
          have f2 := blk_free HRU.out 2
          have lG : G < U.heap.size := lt_of_block HGb.out
          have lR : R < U.heap.size := lt_of_block HRU.out
          obtain ⟨Y, hY⟩ : ∃ Y, Y = (((U.setCell ⟨R, 0, none⟩ (.string p)).setCell ⟨R, 1, none⟩ (.string q)).setCell ⟨R, 2, none⟩ (.int .i64 t)).drew := ⟨_, rfl⟩
          have HY : Hid (Y.heap[R]? = some (.cells #[.string p, .string q, .int .i64 t] 63 (0, 0)) ∧ Kept Nil w Y) := by rw [hY]; exact ⟨gdrew (hput3 HRU.out), (((KU.out.setNew (p := ⟨R, 0, none⟩) HRw.out _).setNew (p := ⟨R, 1, none⟩) HRw.out _).setNew (p := ⟨R, 2, none⟩) HRw.out _).drew⟩
          obtain ⟨z, Hz⟩ : ∃ z, Hid (z = !decide (c.v = [] ∧ c.n = 0)) := ⟨_, rfl⟩
          rw [← Hz.out]
          go_upto_region 9 with fail
          rw [← hU, ← HGe.out]
          clear hU
          go_region
          all_goals
            go_wp2
            rw [← hY]
            have j0 := blk_at HY.out.1 0 rfl
            have j1 := blk_at HY.out.1 1 rfl
            have j2 := blk_at HY.out.1 2 rfl
            exact bodyPost_ret (v := .tuple #[.int .i64 at', .agg #[.string p, .string q, .int .i64 t], .bool z]) (by simp [results, Tryz.results34, go_sem, j0, j1, j2]) rfl ⟨by rw [HI3.out, HP.out, Hz.out], HY.out.2⟩
      · rw [decide_eq_false ca] at HS
        have HF0 : Hid (F = (0, [], 0)) := by
          show _ = _
          rw [HI.out, show n - k = (n - (k + 1)) + 1 by omega]
          unfold findG
          rw [if_pos (by omega)]
        clear HI
        go_wp2_with fail
        go_fit HS
        rintro _ wq ⟨rfl, hwq⟩
        rw [hwq]
        clear hwq wq
        have f0 := blk_free HRr.out 0
        have f1 := blk_free HRr.out 1
        have f2 := blk_free HRr.out 2
        have x0 : wr.cell? ⟨R, 0, none⟩ = some (.string ⟨#[]⟩) := blk_at HRr.out 0 rfl
        have x1 : wr.cell? ⟨R, 1, none⟩ = some (.string ⟨#[]⟩) := blk_at HRr.out 1 rfl
        have x2 : wr.cell? ⟨R, 2, none⟩ = some (.int .i64 0) := blk_at HRr.out 2 rfl
        obtain ⟨Y, hY⟩ : ∃ Y, Y = ((wr.setCell ⟨R, 0, none⟩ (.string ⟨#[]⟩)).setCell ⟨R, 1, none⟩ (.string ⟨#[]⟩)).setCell ⟨R, 2, none⟩ (.int .i64 0) := ⟨_, rfl⟩
        have HY : Hid (Y.heap[R]? = some (.cells #[.string ⟨#[]⟩, .string ⟨#[]⟩, .int .i64 0] 63 (0, 0)) ∧ Kept Nil w Y) := by rw [hY]; exact ⟨hput3 HRr.out, ((HK.out.setNew (p := ⟨R, 0, none⟩) HRw.out _).setNew (p := ⟨R, 1, none⟩) HRw.out _).setNew (p := ⟨R, 2, none⟩) HRw.out _⟩
        go_wp2
        rw [← hY]
        have j0 := blk_at HY.out.1 0 rfl
        have j1 := blk_at HY.out.1 1 rfl
        have j2 := blk_at HY.out.1 2 rfl
        exact bodyPost_ret (v := .tuple #[.int .i64 0, prV key [] 0, .bool false]) (by simp [results, Tryz.results34, go_sem, j0, j1, j2, prV]) rfl ⟨by rw [HF0.out]; simp, HY.out.2⟩
    · have HF0 : Hid (F = (0, [], 0)) := by
        show _ = _
        rw [HI.out, show n - k = 0 by omega]
        rfl
      clear HI
      have f0 := blk_free HRr.out 0
      have f1 := blk_free HRr.out 1
      have f2 := blk_free HRr.out 2
      have x0 : wr.cell? ⟨R, 0, none⟩ = some (.string ⟨#[]⟩) := blk_at HRr.out 0 rfl
      have x1 : wr.cell? ⟨R, 1, none⟩ = some (.string ⟨#[]⟩) := blk_at HRr.out 1 rfl
      have x2 : wr.cell? ⟨R, 2, none⟩ = some (.int .i64 0) := blk_at HRr.out 2 rfl
      obtain ⟨Y, hY⟩ : ∃ Y, Y = ((wr.setCell ⟨R, 0, none⟩ (.string ⟨#[]⟩)).setCell ⟨R, 1, none⟩ (.string ⟨#[]⟩)).setCell ⟨R, 2, none⟩ (.int .i64 0) := ⟨_, rfl⟩
      have HY : Hid (Y.heap[R]? = some (.cells #[.string ⟨#[]⟩, .string ⟨#[]⟩, .int .i64 0] 63 (0, 0)) ∧ Kept Nil w Y) := by rw [hY]; exact ⟨hput3 HRr.out, ((HK.out.setNew (p := ⟨R, 0, none⟩) HRw.out _).setNew (p := ⟨R, 1, none⟩) HRw.out _).setNew (p := ⟨R, 2, none⟩) HRw.out _⟩
      go_wp2
      rw [← hY]
      have j0 := blk_at HY.out.1 0 rfl
      have j1 := blk_at HY.out.1 1 rfl
      have j2 := blk_at HY.out.1 2 rfl
      exact bodyPost_ret (v := .tuple #[.int .i64 0, prV key [] 0, .bool false]) (by simp [results, Tryz.results34, go_sem, j0, j1, j2, prV]) rfl ⟨by rw [HF0.out]; simp, HY.out.2⟩
end Go.Proofs.YtflnjlbafchnaaaGreatDoor
