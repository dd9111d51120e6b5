/-
  Joined: WCh4, WCh5, WCi1, WCi2, WCj1, WCj2.
-/
import Derived.Test.YtflnjlbafchnaaaGreatDoorWChA
import Derived.Test.YtflnjlbafchnaaaGreatDoorWCeP
/-
  Cells: handedOver, Find (the program).
-/
namespace Go.Proofs.YtflnjlbafchnaaaGreatDoor
open Go.RowKit

theorem sayM_ok (key : List UInt8) (ms : List (List Pr)) (g : Nat) : (sayM key ms g).Ok := sawC_ok _ _
set_option maxRecDepth 100000 in
set_option maxHeartbeats 4000000 in
theorem handed_any (key : List UInt8) (ms : List (List Pr)) (mo : Option Addr) (mc : Nat) (c : Ce) (hc : c.Ok) (w : World) (h : MRow w mo ms) (hk : key.length ≤ 1000) (hlen : ms.length ≤ 1000000000) (hw : 14 ≤ w.heap.size) (hgl : c.s = 1 → c.g ≤ ms.length) (hL : LW w) :
    Calls Tryz.prog 98 #[.slice mo ms.length mc, ceV c, .string (bs key)] w fun e w' => e = .returned (.bool (handed (sayM key ms) ms.length c)) ∧ Kept Nil w w' := by
  obtain ⟨y, Hy⟩ : ∃ y, Hid (y = handed (sayM key ms) ms.length c) := ⟨_, rfl⟩
  rw [← Hy.out]
  obtain ⟨W, hW⟩ : ∃ W, W = w.alloc (.cells #[.string (bs c.v), .int .i64 c.n, .int .i64 c.s, .int .i64 c.h, .int .i64 c.g] 131) := ⟨_, rfl⟩
  obtain ⟨A, HAe⟩ : ∃ A, Hid (A = w.heap.size) := ⟨_, rfl⟩
  have KW : Hid (Kept Nil w W) := by rw [hW]; exact (Kept.refl _ _).alloc _
  have HA : Hid (CeAt W A c) := by rw [hW, HAe.out]; exact blk_new _ _
  have HLW : Hid (LW W) := hL.kept KW.out
  have HM : Hid (MRow W mo ms) := h.kept KW.out
  have HW20 : Hid (14 ≤ W.heap.size) := Nat.le_trans hw KW.out.size
  have hlA : A < W.heap.size := lt_of_block HA.out
  have a2 : W.cell? ⟨A, 2, none⟩ = some (.int .i64 c.s) := blk_at HA.out 2 rfl
  have a3 : W.cell? ⟨A, 3, none⟩ = some (.int .i64 c.h) := blk_at HA.out 3 rfl
  have a4 : W.cell? ⟨A, 4, none⟩ = some (.int .i64 c.g) := blk_at HA.out 4 rfl
  have HS := fun X => chas_any c.g ms.length mo mc X
  clear h hL
  unfold ceV
  by_cases c2 : c.s = 2
  · obtain rfl : y = true := by rw [Hy.out]; unfold handed; simp [c2]
    have e2 : ((c.s : Int) == 2) = true := by rw [c2]; rfl
    clear c2
    go_enter Tryz.func98, Tryz.ntmps98
    go_upto_region 1 with fail
    rw [← hW, ← HAe.out]
    clear hW
    go_wp2
    go_ret
    exact ⟨rfl, KW.out⟩
  · have e2 : ((c.s : Int) == 2) = false := by simp; omega
    by_cases c1 : c.s = 1
    · have e1 : ((c.s : Int) == 1) = true := by rw [c1]; rfl
      have hg1 := (hc.g1 (by omega)).1
      by_cases cg : c.g ≤ ms.length
      · have hy : y = decide (c.h ≤ (sayM key ms c.g).h) := by rw [Hy.out]; unfold handed; simp [c1, cg]
        have SY := fun (X : World) (kX : Kept Nil W X) => say_any key ms mo mc c.g X (HM.out.kept kX) hk hg1 cg hlen (Nat.le_trans HW20.out kX.size) (HLW.out.kept kX)
        obtain ⟨x, Hx⟩ : ∃ x, Hid (x = sayM key ms c.g) := ⟨_, rfl⟩
        rw [← Hx.out] at SY hy
        rw [decide_eq_true cg] at HS
        unfold ceV at SY
        have fld : ∀ Z, (Instr.field 131 (.agg #[.string (bs x.v), .int .i64 x.n, .int .i64 x.s, .int .i64 x.h, .int .i64 x.g]) 2).run Tryz.prog Z = .ok (.int .i64 x.h) Z := fun _ => by kernel_rfl
        clear c1 c2 cg
        have s0 : W.cell? ⟨A, 3, none⟩ = some (.int .i64 c.h) ∧ W.cell? ⟨A, 4, none⟩ = some (.int .i64 c.g) := ⟨a3, a4⟩
        by_cases ch : c.h ≤ x.h
        · have dh : (c.h : Int) ≤ x.h := by omega
          obtain rfl : y = true := by rw [hy]; exact decide_eq_true ch
          clear ch hy
          go_enter Tryz.func98, Tryz.ntmps98
          go_upto_region 5 with fail
          rw [← hW, ← HAe.out]
          clear hW
          go_region_held3 (fun w' => w'.cell? ⟨A, 3, none⟩ = some (.int .i64 c.h) ∧ w'.cell? ⟨A, 4, none⟩ = some (.int .i64 c.g)) (first | (with_reducible assumption) | go_keep) (first | (go_at_call 96; go_fit (HS _); rintro _ wq ⟨rfl, hwq⟩; subst hwq) | (go_at_call 97; go_fit (SY _ (by repeat (first | exact Kept.refl _ _ | refine Kept.drew ?_))); rintro _ wa ⟨rfl, ka⟩; have Ka : Hid (Kept Nil W wa) := Kept.trans (by repeat (first | exact Kept.refl _ _ | refine Kept.drew ?_)) ka; have HAa : Hid (CeAt wa A c) := ka.block _ _ HA.out (fun x => x); clear ka; have sa : wa.cell? ⟨A, 3, none⟩ = some (.int .i64 c.h) ∧ wa.cell? ⟨A, 4, none⟩ = some (.int .i64 c.g) := ⟨blk_at HAa.out 3 rfl, blk_at HAa.out 4 rfl⟩))
          all_goals
            go_wp2
            go_ret
            exact ⟨rfl, KW.out.trans Ka.out⟩
        · have dh : ¬ (c.h : Int) ≤ x.h := by omega
          have dh2 : decide ((c.h : Int) ≤ x.h) = false := decide_eq_false dh
          have dh3 : decide (c.h ≤ x.h) = false := decide_eq_false ch
          have dh4 : x.h < c.h := by omega
          obtain rfl : y = false := by rw [hy]; exact decide_eq_false ch
          clear ch hy
          go_enter Tryz.func98, Tryz.ntmps98
          go_upto_region 5 with fail
          rw [← hW, ← HAe.out]
          clear hW
          go_region_held3 (fun w' => w'.cell? ⟨A, 3, none⟩ = some (.int .i64 c.h) ∧ w'.cell? ⟨A, 4, none⟩ = some (.int .i64 c.g)) (first | (with_reducible assumption) | go_keep) (first | (go_at_call 96; go_fit (HS _); rintro _ wq ⟨rfl, hwq⟩; subst hwq) | (go_at_call 97; go_fit (SY _ (by repeat (first | exact Kept.refl _ _ | refine Kept.drew ?_))); rintro _ wa ⟨rfl, ka⟩; have Ka : Hid (Kept Nil W wa) := Kept.trans (by repeat (first | exact Kept.refl _ _ | refine Kept.drew ?_)) ka; have HAa : Hid (CeAt wa A c) := ka.block _ _ HA.out (fun x => x); clear ka; have sa : wa.cell? ⟨A, 3, none⟩ = some (.int .i64 c.h) ∧ wa.cell? ⟨A, 4, none⟩ = some (.int .i64 c.g) := ⟨blk_at HAa.out 3 rfl, blk_at HAa.out 4 rfl⟩))
          all_goals
            go_wp2
            go_ret
            exact ⟨rfl, KW.out.trans Ka.out⟩
      · exact absurd (hgl c1) cg
    · obtain rfl : y = false := by rw [Hy.out]; unfold handed; simp [c1, c2]
      have e1 : ((c.s : Int) == 1) = false := by simp; omega
      clear c1 c2
      go_enter Tryz.func98, Tryz.ntmps98
      go_upto_region 1 with fail
      rw [← hW, ← HAe.out]
      clear hW
      go_wp2
      go_ret
      exact ⟨rfl, KW.out⟩
end Go.Proofs.YtflnjlbafchnaaaGreatDoor

/-
  Cells: Find (the program), where every group that is named while a key is moving is there.
-/
namespace Go.Proofs.YtflnjlbafchnaaaGreatDoor
open Go.RowKit

theorem hput3 {w : World} {R : Nat} {t : TypeId} {p0 p1 p2 x0 x1 x2 : Value} (h : w.heap[R]? = some (.cells #[p0, p1, p2] t (0, 0))) : (((w.setCell ⟨R, 0, none⟩ x0).setCell ⟨R, 1, none⟩ x1).setCell ⟨R, 2, none⟩ x2).heap[R]? = some (.cells #[x0, x1, x2] t (0, 0)) := by
  have h0 := blk_set h 0 x0
  have h1 := blk_set h0 1 x1
  have h2 := blk_set h1 2 x2
  simpa using h2
def FindPost (w : World) (key : List UInt8) (F : Nat × List UInt8 × Nat) (e : Ending) (w' : World) : Prop := e = .returned (.tuple #[.int .i64 F.1, prV key F.2.1 F.2.2, .bool (!decide (F.2.1 = [] ∧ F.2.2 = 0))]) ∧ Kept Nil w w'
set_option maxRecDepth 100000 in
set_option maxHeartbeats 4000000 in
theorem cfind_any (key : List UInt8) (ms : List (List Pr)) (mo : Option Addr) (mc : Nat) (w : World) (h : MRow w mo ms) (hk : key.length ≤ 1000) (hlen : ms.length ≤ 1000000000) (hw : 14 ≤ w.heap.size) (hgl : ∀ g, (sayM key ms g).s = 1 → (sayM key ms g).g ≤ ms.length) (hL : LW w) :
    Calls Tryz.prog 34 #[.slice mo ms.length mc, .string (bs key)] w (FindPost w key (findG (sayM key ms) ms.length ms.length 1)) := by
  obtain ⟨F, HF⟩ : ∃ F, Hid (F = findG (sayM key ms) ms.length ms.length 1) := ⟨_, rfl⟩
  rw [← HF.out]
  obtain ⟨W, hW⟩ : ∃ W, W = w.alloc (.cells #[.string ⟨#[]⟩, .string ⟨#[]⟩, .int .i64 0] 63) := ⟨_, rfl⟩
  obtain ⟨R, HRe⟩ : ∃ A, Hid (A = w.heap.size) := ⟨_, rfl⟩
  have KW : Hid (Kept Nil w W) := by rw [hW]; exact (Kept.refl _ _).alloc _
  have HR : Hid (W.heap[R]? = some (.cells #[.string ⟨#[]⟩, .string ⟨#[]⟩, .int .i64 0] 63 (0, 0))) := by rw [hW, HRe.out]; exact blk_new _ _
  have HRw : Hid (w.heap.size ≤ R) := by show _ ≤ _; rw [HRe.out]; exact Nat.le_refl _
  have HM : Hid (MRow w mo ms) := h
  have HLw : Hid (LW w) := hL
  have HGL : Hid (∀ g, (sayM key ms g).s = 1 → (sayM key ms g).g ≤ ms.length) := hgl
  obtain ⟨n, hn⟩ : ∃ n, n = ms.length := ⟨_, rfl⟩
  have Hn : Hid (n = ms.length) := hn
  rw [← hn] at hlen HF HGL ⊢
  clear h hL hn hgl
  go_enter Tryz.func34, Tryz.ntmps34
  go_upto_region 1 with fail
  rw [← hW, ← HRe.out]
  clear hW
  go_wp2
  go_loopw [8, 15] (fun x i wr => ∃ k at' : Nat, k ≤ n ∧ 1 ≤ at' ∧ x = .int .i64 at' ∧ i = .int .i64 k ∧ Hid (F = findG (sayM key ms) n (n - k) at') ∧ Hid (Kept Nil w wr) ∧ Hid (wr.heap[R]? = some (.cells #[.string ⟨#[]⟩, .string ⟨#[]⟩, .int .i64 0] 63 (0, 0)))) (fun _ i _ => n - (intOf i).toNat)
  case atStart => exact ⟨0, 1, Nat.zero_le _, Nat.le_refl _, rfl, rfl, HF.out, KW.out, HR.out⟩
  case round =>
    obtain ⟨k, at', hkn, ha1, rfl, rfl, HI, HK, HRr⟩ := hrel
    clear HF HR
    rename World => wr
    by_cases hlt : k < n
    · have HS := chas_any at' n mo mc wr
      by_cases ca : at' ≤ n
      · rw [decide_eq_true ca] at HS
        have SY := say_any key ms mo mc at' wr (HM.out.kept HK.out) hk ha1 (by have := Hn.out; omega) (by have := Hn.out; omega) (Nat.le_trans hw HK.out.size) (HLw.out.kept HK.out)
        rw [← Hn.out] at SY
        obtain ⟨c, Hc⟩ : ∃ c, Hid (c = sayM key ms at') := ⟨_, rfl⟩
        rw [← Hc.out] at SY
        have HOK : Hid c.Ok := by rw [Hc.out]; exact sayM_ok _ _ _
        have HI2 : Hid (F = if handed (sayM key ms) n c = true then findG (sayM key ms) n (n - (k + 1)) c.g else (at', c.v, c.n)) := by
          show _ = _
          rw [HI.out, show n - k = (n - (k + 1)) + 1 by omega, Hc.out]
          conv => lhs; unfold findG
          rw [if_neg (by omega)]
        clear HI
        go_wp2_with fail
        go_fit HS
        rintro _ wq ⟨rfl, hwq⟩
        rw [hwq]
        clear hwq wq
        go_wp2_with fail
        go_fit SY
        rintro _ w1 ⟨rfl, k1⟩
        have K1 : Hid (Kept Nil w w1) := HK.out.trans k1
        have HR1 : Hid (w1.heap[R]? = some (.cells #[.string ⟨#[]⟩, .string ⟨#[]⟩, .int .i64 0] 63 (0, 0))) := k1.block _ _ HRr.out (fun x => x)
        clear k1 SY HS
        unfold ceV
        obtain ⟨V, hV⟩ : ∃ V, V = w1.alloc (.cells #[.string (bs c.v), .int .i64 c.n, .int .i64 c.s, .int .i64 c.h, .int .i64 c.g] 131) := ⟨_, rfl⟩
        obtain ⟨B, HBe⟩ : ∃ A, Hid (A = w1.heap.size) := ⟨_, rfl⟩
        have KV : Hid (Kept Nil w V) := by rw [hV]; exact K1.out.alloc _
        have HB : Hid (CeAt V B c) := by rw [hV, HBe.out]; exact blk_new _ _
        have HRV : Hid (V.heap[R]? = some (.cells #[.string ⟨#[]⟩, .string ⟨#[]⟩, .int .i64 0] 63 (0, 0))) := by rw [hV]; exact blk_past HR1.out _
        have HD := handed_any key ms mo mc c HOK.out V (HM.out.kept KV.out) hk (by have := Hn.out; omega) (Nat.le_trans hw KV.out.size) (by rw [← Hn.out, Hc.out]; exact HGL.out at') (HLw.out.kept KV.out)
        rw [← Hn.out] at HD
        obtain ⟨y, Hy⟩ : ∃ y, Hid (y = handed (sayM key ms) n c) := ⟨_, rfl⟩
        rw [← Hy.out] at HD HI2
        unfold ceV at HD
        have b0 : V.cell? ⟨B, 0, none⟩ = some (.string (bs c.v)) := blk_at HB.out 0 rfl
        have b1 : V.cell? ⟨B, 1, none⟩ = some (.int .i64 c.n) := blk_at HB.out 1 rfl
        have b2 : V.cell? ⟨B, 2, none⟩ = some (.int .i64 c.s) := blk_at HB.out 2 rfl
        have b3 : V.cell? ⟨B, 3, none⟩ = some (.int .i64 c.h) := blk_at HB.out 3 rfl
        have b4 : V.cell? ⟨B, 4, none⟩ = some (.int .i64 c.g) := blk_at HB.out 4 rfl
        go_upto_region 7 with fail
        rw [← hV, ← HBe.out]
        clear hV
        go_wp2_with fail
        go_fit HD
        rintro _ w2 ⟨rfl, k2⟩
        have K2 : Hid (Kept Nil w w2) := KV.out.trans k2
        have HB2 : Hid (CeAt w2 B c) := k2.block _ _ HB.out (fun x => x)
        have HR2 : Hid (w2.heap[R]? = some (.cells #[.string ⟨#[]⟩, .string ⟨#[]⟩, .int .i64 0] 63 (0, 0))) := k2.block _ _ HRV.out (fun x => x)
        clear k2 HD b0 b1 b2 b3 b4
        have d0 : w2.cell? ⟨B, 0, none⟩ = some (.string (bs c.v)) := blk_at HB2.out 0 rfl
        have d1 : w2.cell? ⟨B, 1, none⟩ = some (.int .i64 c.n) := blk_at HB2.out 1 rfl
        have d4 : w2.cell? ⟨B, 4, none⟩ = some (.int .i64 c.g) := blk_at HB2.out 4 rfl
        cases y with
        | true =>
          have HI3 : Hid (F = findG (sayM key ms) n (n - (k + 1)) c.g) := HI2.out
          have hg1 : 1 ≤ c.g := by
            refine (HOK.out.g1 (fun e => ?_)).1
            have := Hy.out
            unfold handed at this
            simp [e] at this
          go_wp2
          go_roundw
          case rel => exact ⟨k + 1, c.g, by omega, hg1, rfl, by go_num, HI3.out, K2.out, HR2.out⟩
          case measure => simp [intOf]; omega
        | false =>
          have HI3 : Hid (F = (at', c.v, c.n)) := HI2.out
          have PA := pair_any c.v c.n key w2
          unfold ctV at PA
          go_wp2_with fail
          go_fit PA
          rintro _ w3 ⟨rfl, k3⟩
          have K3 : Hid (Kept Nil w w3) := K2.out.trans k3
          have HR3 : Hid (w3.heap[R]? = some (.cells #[.string ⟨#[]⟩, .string ⟨#[]⟩, .int .i64 0] 63 (0, 0))) := k3.block _ _ HR2.out (fun x => x)
          clear k3 PA d0 d1 d4
          obtain ⟨p, q, t, hp⟩ : ∃ p q t, prV key c.v c.n = .agg #[.string p, .string q, .int .i64 t] := by
            unfold prV
            split
            · exact ⟨_, _, _, rfl⟩
            · exact ⟨_, _, _, rfl⟩
          have HP : Hid (prV key c.v c.n = .agg #[.string p, .string q, .int .i64 t]) := hp
          rw [hp]
          clear hp
          obtain ⟨U, hU⟩ : ∃ U, U = w3.alloc (.cells #[.string p, .string q, .int .i64 t] 63) := ⟨_, rfl⟩
          obtain ⟨G, HGe⟩ : ∃ A, Hid (A = w3.heap.size) := ⟨_, rfl⟩
          have KU : Hid (Kept Nil w U) := by rw [hU]; exact K3.out.alloc _
          have HGb : Hid (U.heap[G]? = some (.cells #[.string p, .string q, .int .i64 t] 63 (0, 0))) := by rw [hU, HGe.out]; exact blk_new _ _
          have HRU : Hid (U.heap[R]? = some (.cells #[.string ⟨#[]⟩, .string ⟨#[]⟩, .int .i64 0] 63 (0, 0))) := by rw [hU]; exact blk_past HR3.out _
          have hGR : G ≠ R := by rw [HGe.out]; have := lt_of_block HR3.out; omega
          have hRG : R ≠ G := fun e => hGR e.symm
          have e0 : U.cell? ⟨G, 0, none⟩ = some (.string p) := blk_at HGb.out 0 rfl
          have e1 : U.cell? ⟨G, 1, none⟩ = some (.string q) := blk_at HGb.out 1 rfl
          have e2 : U.cell? ⟨G, 2, none⟩ = some (.int .i64 t) := blk_at HGb.out 2 rfl
          have x0 : U.cell? ⟨R, 0, none⟩ = some (.string ⟨#[]⟩) := blk_at HRU.out 0 rfl
          have x1 : U.cell? ⟨R, 1, none⟩ = some (.string ⟨#[]⟩) := blk_at HRU.out 1 rfl
          have x2 : U.cell? ⟨R, 2, none⟩ = some (.int .i64 0) := blk_at HRU.out 2 rfl
          have f0 := blk_free HRU.out 0
          have f1 := blk_free HRU.out 1
          have f2 := blk_free HRU.out 2
          have lG : G < U.heap.size := lt_of_block HGb.out
          have lR : R < U.heap.size := lt_of_block HRU.out
          obtain ⟨Y, hY⟩ : ∃ Y, Y = (((U.setCell ⟨R, 0, none⟩ (.string p)).setCell ⟨R, 1, none⟩ (.string q)).setCell ⟨R, 2, none⟩ (.int .i64 t)).drew := ⟨_, rfl⟩
          have HY : Hid (Y.heap[R]? = some (.cells #[.string p, .string q, .int .i64 t] 63 (0, 0)) ∧ Kept Nil w Y) := by rw [hY]; exact ⟨gdrew (hput3 HRU.out), (((KU.out.setNew (p := ⟨R, 0, none⟩) HRw.out _).setNew (p := ⟨R, 1, none⟩) HRw.out _).setNew (p := ⟨R, 2, none⟩) HRw.out _).drew⟩
          obtain ⟨z, Hz⟩ : ∃ z, Hid (z = !decide (c.v = [] ∧ c.n = 0)) := ⟨_, rfl⟩
          rw [← Hz.out]
          go_upto_region 9 with fail
          rw [← hU, ← HGe.out]
          clear hU
          go_region
          all_goals
            go_wp2
            rw [← hY]
            have j0 := blk_at HY.out.1 0 rfl
            have j1 := blk_at HY.out.1 1 rfl
            have j2 := blk_at HY.out.1 2 rfl
            exact bodyPost_ret (v := .tuple #[.int .i64 at', .agg #[.string p, .string q, .int .i64 t], .bool z]) (by simp [results, Tryz.results34, go_sem, j0, j1, j2]) rfl ⟨by rw [HI3.out, HP.out, Hz.out], HY.out.2⟩
      · rw [decide_eq_false ca] at HS
        have HF0 : Hid (F = (0, [], 0)) := by
          show _ = _
          rw [HI.out, show n - k = (n - (k + 1)) + 1 by omega]
          unfold findG
          rw [if_pos (by omega)]
        clear HI
        go_wp2_with fail
        go_fit HS
        rintro _ wq ⟨rfl, hwq⟩
        rw [hwq]
        clear hwq wq
        have f0 := blk_free HRr.out 0
        have f1 := blk_free HRr.out 1
        have f2 := blk_free HRr.out 2
        have x0 : wr.cell? ⟨R, 0, none⟩ = some (.string ⟨#[]⟩) := blk_at HRr.out 0 rfl
        have x1 : wr.cell? ⟨R, 1, none⟩ = some (.string ⟨#[]⟩) := blk_at HRr.out 1 rfl
        have x2 : wr.cell? ⟨R, 2, none⟩ = some (.int .i64 0) := blk_at HRr.out 2 rfl
        obtain ⟨Y, hY⟩ : ∃ Y, Y = ((wr.setCell ⟨R, 0, none⟩ (.string ⟨#[]⟩)).setCell ⟨R, 1, none⟩ (.string ⟨#[]⟩)).setCell ⟨R, 2, none⟩ (.int .i64 0) := ⟨_, rfl⟩
        have HY : Hid (Y.heap[R]? = some (.cells #[.string ⟨#[]⟩, .string ⟨#[]⟩, .int .i64 0] 63 (0, 0)) ∧ Kept Nil w Y) := by rw [hY]; exact ⟨hput3 HRr.out, ((HK.out.setNew (p := ⟨R, 0, none⟩) HRw.out _).setNew (p := ⟨R, 1, none⟩) HRw.out _).setNew (p := ⟨R, 2, none⟩) HRw.out _⟩
        go_wp2
        rw [← hY]
        have j0 := blk_at HY.out.1 0 rfl
        have j1 := blk_at HY.out.1 1 rfl
        have j2 := blk_at HY.out.1 2 rfl
        exact bodyPost_ret (v := .tuple #[.int .i64 0, prV key [] 0, .bool false]) (by simp [results, Tryz.results34, go_sem, j0, j1, j2, prV]) rfl ⟨by rw [HF0.out]; simp, HY.out.2⟩
    · have HF0 : Hid (F = (0, [], 0)) := by
        show _ = _
        rw [HI.out, show n - k = 0 by omega]
        rfl
      clear HI
      have f0 := blk_free HRr.out 0
      have f1 := blk_free HRr.out 1
      have f2 := blk_free HRr.out 2
      have x0 : wr.cell? ⟨R, 0, none⟩ = some (.string ⟨#[]⟩) := blk_at HRr.out 0 rfl
      have x1 : wr.cell? ⟨R, 1, none⟩ = some (.string ⟨#[]⟩) := blk_at HRr.out 1 rfl
      have x2 : wr.cell? ⟨R, 2, none⟩ = some (.int .i64 0) := blk_at HRr.out 2 rfl
      obtain ⟨Y, hY⟩ : ∃ Y, Y = ((wr.setCell ⟨R, 0, none⟩ (.string ⟨#[]⟩)).setCell ⟨R, 1, none⟩ (.string ⟨#[]⟩)).setCell ⟨R, 2, none⟩ (.int .i64 0) := ⟨_, rfl⟩
      have HY : Hid (Y.heap[R]? = some (.cells #[.string ⟨#[]⟩, .string ⟨#[]⟩, .int .i64 0] 63 (0, 0)) ∧ Kept Nil w Y) := by rw [hY]; exact ⟨hput3 HRr.out, ((HK.out.setNew (p := ⟨R, 0, none⟩) HRw.out _).setNew (p := ⟨R, 1, none⟩) HRw.out _).setNew (p := ⟨R, 2, none⟩) HRw.out _⟩
      go_wp2
      rw [← hY]
      have j0 := blk_at HY.out.1 0 rfl
      have j1 := blk_at HY.out.1 1 rfl
      have j2 := blk_at HY.out.1 2 rfl
      exact bodyPost_ret (v := .tuple #[.int .i64 0, prV key [] 0, .bool false]) (by simp [results, Tryz.results34, go_sem, j0, j1, j2, prV]) rfl ⟨by rw [HF0.out]; simp, HY.out.2⟩
end Go.Proofs.YtflnjlbafchnaaaGreatDoor

/-
  Cells: three maps as pairs, and as what stands under their keys: what a group says, a job's step.
-/
namespace Go.Proofs.YtflnjlbafchnaaaGreatDoor

/-- What stands under the keys of maps in a row; group 1 is the first. -/
def SM (ms : List (List Pr)) (g : Nat) : St := St.of (if g = 0 then [] else (ms[g - 1]?).getD [])
theorem get_tell {ps : List Pr} {k : List UInt8} (hok : pairsOk ps = true) (hc : isCmd 2 k [] 0 = true) : apR 2 k [] 0 ps = tellRr 1 (spotV k ps) (spotN k ps) := by
  rw [(get_ap hok hc).2]
  rfl
theorem cKey_get {k : List UInt8} (h1 : k.length ≤ 15) : isCmd 2 (cKey k) [] 0 = true := by
  unfold isCmd cKey
  simp [isNum]
  omega
theorem sayM_is {ms : List (List Pr)} {key : List UInt8} (hok : ∀ ps ∈ ms, pairsOk ps = true) (hk : key.length ≤ 15) (g : Nat) : sayM key ms g = Kc (SM ms) key g := by
  unfold sayM
  have h : pairsOk (if g = 0 then [] else (ms[g - 1]?).getD []) = true := by
    split
    · rfl
    · cases e : ms[g - 1]? with
      | none => rfl
      | some ps => exact hok ps (List.mem_of_getElem? e)
  rw [get_tell h (cKey_get hk)]
  exact (told (SM ms) key g).saw
/-- Versions that a job has noted are no less than 0. -/
def Nn (j : Jb) : Prop := 0 ≤ j.sv ∧ 0 ≤ j.sp
theorem tell_nn {kd : Int} {v : List UInt8} {n : Int} (h : 0 ≤ n) : 0 ≤ versR (tellRr kd v n) := by
  unfold versR tellRr
  by_cases c : n = 0
  · rw [if_pos c]
    simp
  · rw [if_neg c]
    simp only
    split
    · exact h
    · exact Int.le_refl _
theorem answer_nn {j : Jb} (h : Nn j) {r : Rr} (hr : 0 ≤ versR r) : Nn (j.answer r) := by
  have hs : ∀ i : Jb, Nn i → Nn i.seen := fun i hi => by
    unfold Jb.seen Jb.handOver Jb.apply Jb.follow Jb.finK Jb.fin
    (repeat' split) <;> exact hi
  unfold Jb.answer
  split
  · unfold Jb.hasRead
    split
    · exact h
    · exact hs _ ⟨hr, h.2⟩
  · split
    · unfold Jb.hasWritten Jb.finK Jb.fin
      split
      · rename_i hc
        refine ⟨?_, h.2⟩
        unfold versR at hr
        rw [if_pos hc.1] at hr
        exact hr
      · (repeat' split) <;> exact h
    · split
      · unfold Jb.hasPrepared
        (repeat' split) <;> exact h
      · split
        · unfold Jb.hasRoom Jb.finK Jb.fin
          (repeat' split) <;> exact h
        · split
          · unfold Jb.hasLooked
            split
            · exact h
            · exact ⟨h.1, hr⟩
          · split
            · exact h
            · split
              · unfold Jb.hasSealed Jb.finK Jb.fin Jb.follow
                (repeat' split) <;> exact h
              · exact h
theorem num_ok {m : Int} (h0 : 0 ≤ m) (h1 : m ≤ 1099511627775) : isNum m = true := by unfold isNum; simp; omega
theorem cKey_swap {k x : List UInt8} {m : Int} (h1 : k.length ≤ 15) (hx : x.length ≤ 64) (h0 : 0 ≤ m) (hm : m ≤ 1099511627775) : isCmd 4 (cKey k) x m = true := by
  unfold isCmd cKey
  rw [num_ok h0 hm]
  simp
  omega
theorem swap_tell {ps : List Pr} {key val : List UInt8} {m : Int} (hok : pairsOk ps = true) (hc : isCmd 4 key val m = true) (hn : spotN key ps ≠ m) : apR 4 key val m ps = tellRr 3 (spotV key ps) (spotN key ps) := by
  unfold apR
  rw [hok, hc]
  show swapRr val (spotV key ps) m (spotN key ps) ps.length = _
  unfold swapRr
  rw [if_neg hn]
/-- The command of a job that writes. -/
theorem next_wr {j : Jb} (hp : j.ph = 1 ∨ j.ph = 3 ∨ j.ph = 5 ∨ j.ph = 6) : j.next.2.1 = swapC (cKey j.k) (ceTxt j.wr) j.next.2.1.m := by
  unfold Jb.next Jb.wr
  rcases hp with e | e | e | e <;> rw [e] <;> rfl
theorem next_rd {j : Jb} (hp : j.ph = 0 ∨ j.ph = 2 ∨ j.ph = 4) : j.next.2.1 = getC (cKey j.k) := by
  unfold Jb.next
  rcases hp with e | e | e <;> rw [e] <;> rfl
theorem next_nn {j : Jb} (h : Nn j) : 0 ≤ j.next.2.1.m := by
  unfold Jb.next
  (repeat' split)
  all_goals first | exact Int.le_refl _ | exact h.1 | exact h.2
theorem SM_set {ms : List (List Pr)} {g : Nat} (h1 : 1 ≤ g) (hg : g ≤ ms.length) (ps : List Pr) : SM (ms.set (g - 1) ps) = updc (SM ms) g (St.of ps) := by
  funext y
  by_cases e : y = g
  · subst e
    rw [updc_at]
    unfold SM
    rw [if_neg (by omega), List.getElem?_set_self (by omega)]
    rfl
  · rw [updc_ne _ _ e]
    unfold SM
    by_cases h0 : y = 0
    · rw [if_pos h0, if_pos h0]
    · rw [if_neg h0, if_neg h0, List.getElem?_set_ne (by omega)]
theorem SM_at {ms : List (List Pr)} {g : Nat} (h1 : 1 ≤ g) {ps : List Pr} (h : ms[g - 1]? = some ps) : SM ms g = St.of ps := by
  unfold SM
  rw [if_neg (by omega), h]
  rfl
/-- A step of a job over the pairs of its map is one over what stands under the keys. -/
theorem jgo_is {j : Jb} {ms : List (List Pr)} {ps : List Pr} (h1 : 1 ≤ j.next.1) (hg : j.next.1 ≤ ms.length) (hps : ms[j.next.1 - 1]? = some ps) (hok : pairsOk ps = true) (o : j.Ok) (nn : Nn j) (hp : j.ph ≤ 6)
    (hl : ps.length < 32 ∨ ∃ p ∈ ps, p.k = cKey j.k) (hv : spotN (cKey j.k) ps < 1099511627775) (hm : j.next.2.1.m ≤ 1099511627775) :
    SM (ms.set (j.next.1 - 1) (apP j.next.2.1.kd j.next.2.1.k j.next.2.1.v j.next.2.1.m ps)) = (j.go (SM ms)).1
      ∧ j.answer (apR j.next.2.1.kd j.next.2.1.k j.next.2.1.v j.next.2.1.m ps) = (j.go (SM ms)).2
      ∧ pairsOk (apP j.next.2.1.kd j.next.2.1.k j.next.2.1.v j.next.2.1.m ps) = true
      ∧ ∀ p ∈ apP j.next.2.1.kd j.next.2.1.k j.next.2.1.v j.next.2.1.m ps, p.k = cKey j.k ∨ ∃ q ∈ ps, q.k = p.k := by
  have hsm := SM_at h1 hps
  by_cases hr : j.ph = 0 ∨ j.ph = 2 ∨ j.ph = 4
  · have e : j.go (SM ms) = (SM ms, j.answer (tellRr 1 ((SM ms j.next.1).v (cKey j.k)) ((SM ms j.next.1).n (cKey j.k)))) := if_pos hr
    rw [e, next_rd hr, hsm]
    have hc := cKey_get o.k2
    have ha : apP 2 (cKey j.k) [] 0 ps = ps := (get_ap hok hc).1
    refine ⟨?_, ?_, ?_, fun p hpp => ?_⟩
    · show SM (ms.set (j.next.1 - 1) (apP 2 (cKey j.k) [] 0 ps)) = _
      rw [ha, SM_set h1 hg]
      exact updc_self _ _ _ hsm
    · show j.answer (apR 2 (cKey j.k) [] 0 ps) = _
      rw [get_tell hok hc]
      rfl
    · show pairsOk (apP 2 (cKey j.k) [] 0 ps) = true
      rw [ha]; exact hok
    · have hpp' : p ∈ apP 2 (cKey j.k) [] 0 ps := hpp
      rw [ha] at hpp'
      exact .inr ⟨p, hpp', rfl⟩
  · have hw : j.ph = 1 ∨ j.ph = 3 ∨ j.ph = 5 ∨ j.ph = 6 := by omega
    obtain ⟨m, Hm⟩ : ∃ m, m = j.next.2.1.m := ⟨_, rfl⟩
    have hn := next_wr hw
    rw [← Hm] at hn hm
    have hm0 : 0 ≤ m := by rw [Hm]; exact next_nn nn
    have hwo := Jb.wr_ok o hw
    have hc := cKey_swap (k := j.k) (x := ceTxt j.wr) (m := m) o.k2 (txt_len hwo) hm0 hm
    rw [hn]
    unfold Jb.go
    rw [if_neg hr, hsm, ← Hm]
    by_cases hq : spotN (cKey j.k) ps = m
    · obtain ⟨e1, hs⟩ := swap_yes hok hc hq (fun hz => by
        rcases hl with h | ⟨p, hpp, ek⟩
        · exact h
        · exfalso
          have h4 := there_yes (pairs_ok hok).2.1 hpp ek
          exact (spot_ok hok (cKey j.k)).2.1.2 h4 (hq.trans hz)) (by rw [← hq]; exact hv) (by simp [cKey])
      rw [if_pos (show (St.of ps).n (cKey j.k) = m from hq)]
      refine ⟨?_, ?_, hs.ok, hs.mem⟩
      · show SM (ms.set (j.next.1 - 1) (apP 4 (cKey j.k) (ceTxt j.wr) m ps)) = swapS (SM ms) j.next.1 j.k j.wr
        rw [SM_set h1 hg]
        unfold swapS
        congr 1
        rw [hsm]
        unfold St.of St.put
        congr 1
        · funext y
          by_cases ey : y = cKey j.k
          · rw [ey, if_pos rfl, hs.v]
          · rw [if_neg ey, (hs.oth y ey).1]
        · funext y
          by_cases ey : y = cKey j.k
          · rw [ey, if_pos rfl, hs.n, ← hq]
          · rw [if_neg ey, (hs.oth y ey).2]
      · show j.answer (apR 4 (cKey j.k) (ceTxt j.wr) m ps) = _
        rw [e1]
    · obtain ⟨e1, _⟩ := swap_no hok hc hq
      rw [if_neg (show ¬ (St.of ps).n (cKey j.k) = m from hq)]
      refine ⟨?_, ?_, ?_, fun p hpp => ?_⟩
      · show SM (ms.set (j.next.1 - 1) (apP 4 (cKey j.k) (ceTxt j.wr) m ps)) = _
        rw [e1, SM_set h1 hg]
        exact updc_self _ _ _ hsm
      · show j.answer (apR 4 (cKey j.k) (ceTxt j.wr) m ps) = _
        rw [swap_tell hok hc hq]
        rfl
      · show pairsOk (apP 4 (cKey j.k) (ceTxt j.wr) m ps) = true
        rw [e1]; exact hok
      · have hpp' : p ∈ apP 4 (cKey j.k) (ceTxt j.wr) m ps := hpp
        rw [e1] at hpp'
        exact .inr ⟨p, hpp', rfl⟩
end Go.Proofs.YtflnjlbafchnaaaGreatDoor

/-
  A command on a map, plainly: it does at its key what it does on just that key, and leaves the others.
-/
namespace Go.Proofs.YtflnjlbafchnaaaGreatDoor

structure MapOk (ps qs : List Pr) (key v : List UInt8) (n : Int) : Prop where
  ok : pairsOk qs = true
  v : spotV key qs = v
  n : spotN key qs = n
  oth : ∀ k, k ≠ key → spotV k qs = spotV k ps ∧ spotN k qs = spotN k ps
  mem : ∀ p ∈ qs, p.k = key ∨ ∃ q ∈ ps, q.k = p.k
theorem MapOk.same {ps : List Pr} (hok : pairsOk ps = true) (key : List UInt8) : MapOk ps ps key (spotV key ps) (spotN key ps) := ⟨hok, rfl, rfl, fun _ _ => ⟨rfl, rfl⟩, fun p hp => .inr ⟨p, hp, rfl⟩⟩
theorem put_is {kd : Int} {key x val : List UInt8} {m : Int} {ps : List Pr} (hok : pairsOk ps = true) (hc : isCmd kd key val m = true) (h4 : isCmd 4 key x (spotN key ps) = true) (hk : kd = 1 ∧ x = val ∨ kd = 5 ∧ x = spotV key ps ++ val ∨ kd = 4 ∧ x = val ∧ spotN key ps = m) :
    apP kd key val m ps = apP 4 key x (spotN key ps) ps ∧ apR kd key val m ps = apR 4 key x (spotN key ps) ps := by
  unfold apP apR
  rw [hok, hc, h4]
  simp only [Bool.and_self, if_true]
  have e1 : doP 4 key x (spotN key ps) (spotV key ps) (spotN key ps) (lowP key ps) ps = putP key x (spotN key ps) (lowP key ps) ps := by
    show swapP key x (spotN key ps) (spotN key ps) (lowP key ps) ps = _
    unfold swapP
    rw [if_pos rfl]
  have e2 : doR 4 key x (spotN key ps) (spotV key ps) (spotN key ps) (lowP key ps) ps = putRr x (spotN key ps) ps.length := by
    show swapRr x (spotV key ps) (spotN key ps) (spotN key ps) ps.length = _
    unfold swapRr
    rw [if_pos rfl]
  rw [e1, e2]
  rcases hk with ⟨rfl, rfl⟩ | ⟨rfl, rfl⟩ | ⟨rfl, rfl, e⟩
  · exact ⟨rfl, rfl⟩
  · exact ⟨rfl, rfl⟩
  · refine ⟨?_, ?_⟩
    · show swapP key x m (spotN key ps) (lowP key ps) ps = _
      unfold swapP
      rw [if_pos e]
    · show swapRr x (spotV key ps) m (spotN key ps) ps.length = _
      unfold swapRr
      rw [if_pos e]
theorem cmd_key {kd : Int} {key val : List UInt8} {m : Int} (hc : isCmd kd key val m = true) : key.length ≤ 16 ∧ val.length ≤ 64 := by
  unfold isCmd at hc
  simp only [Bool.and_eq_true, decide_eq_true_eq] at hc
  exact ⟨hc.1.1.1, hc.1.1.2⟩
theorem four_ok {key x : List UInt8} {n : Int} (h1 : key ≠ []) (h2 : key.length ≤ 16) (h3 : x.length ≤ 64) (h0 : 0 ≤ n) (hn : n ≤ 1099511627775) : isCmd 4 key x n = true := by
  unfold isCmd
  rw [num_ok h0 hn]
  have : key.isEmpty = false := by cases key with | nil => exact absurd rfl h1 | cons _ _ => rfl
  simp [h2, h3, this]
theorem ap_map {kd : Int} {key val : List UInt8} {m : Int} {ps : List Pr} {n : Nat} (hok : pairsOk ps = true) (hc : isCmd kd key val m = true) (hkd : 1 ≤ kd ∧ kd ≤ 5) (hkey : key ≠ []) (hl : ps.length < 32 ∨ ∃ p ∈ ps, p.k = key)
    (hn : spotN key ps = n) (hN : n ≤ 999999) (hv : (spotV key ps).length + val.length ≤ 64) :
    MapOk ps (apP kd key val m ps) key (cmV kd val m (spotV key ps) n) (cmN kd m n) ∧ apR kd key val m ps = cmR kd m (spotV key ps) n := by
  obtain ⟨hk16, _⟩ := cmd_key hc
  have hput : ∀ x : List UInt8, x.length ≤ 64 → (kd = 1 ∧ x = val ∨ kd = 5 ∧ x = spotV key ps ++ val ∨ kd = 4 ∧ x = val ∧ spotN key ps = m) → MapOk ps (apP kd key val m ps) key x ((n + 1 : Nat) : Int) ∧ apR kd key val m ps = ⟨1, [], (n : Int) + 1, []⟩ := fun x hx hcase => by
    have h4 : isCmd 4 key x (spotN key ps) = true := four_ok hkey hk16 hx (by omega) (by omega)
    obtain ⟨e1, e2⟩ := put_is hok hc h4 hcase
    obtain ⟨q1, q2⟩ := swap_yes hok h4 rfl (fun hz => by
      rcases hl with h | ⟨p, hpp, ek⟩
      · exact h
      · exfalso
        have h5 := there_yes (pairs_ok hok).2.1 hpp ek
        exact (spot_ok hok key).2.1.2 h5 hz) (by omega) hkey
    rw [e1, e2, q1, hn]
    exact ⟨⟨by rw [← hn]; exact q2.ok, by rw [← hn]; exact q2.v, by rw [← hn, q2.n, hn]; rfl, fun k hk => by rw [← hn]; exact q2.oth k hk, fun p hp => by rw [← hn] at hp; exact q2.mem p hp⟩, rfl⟩
  rcases (show kd = 1 ∨ kd = 2 ∨ kd = 3 ∨ kd = 4 ∨ kd = 5 by omega) with e | e | e | e | e
  · subst e
    exact hput val (by omega) (.inl ⟨rfl, rfl⟩)
  · subst e
    have ha : apP 2 key val m ps = ps := by unfold apP; rw [hok, hc]; rfl
    have hr : apR 2 key val m ps = tellRr 1 (spotV key ps) (spotN key ps) := by unfold apR; rw [hok, hc]; rfl
    rw [ha, hr, hn]
    exact ⟨⟨hok, rfl, hn, fun _ _ => ⟨rfl, rfl⟩, fun p hp => .inr ⟨p, hp, rfl⟩⟩, rfl⟩
  · subst e
    have ha : apP 3 key val m ps = dropP (spotN key ps) (lowP key ps) ps := by unfold apP; rw [hok, hc]; rfl
    have hr : apR 3 key val m ps = dropRr (spotN key ps) := by unfold apR; rw [hok, hc]; rfl
    rw [ha, hr, hn]
    refine ⟨?_, rfl⟩
    unfold dropP
    obtain ⟨h32, hs, hp⟩ := pairs_ok hok
    by_cases hz : (n : Int) = 0
    · rw [if_pos hz]
      have hth : isThere key ps = false := by
        cases ht : isThere key ps with
        | false => rfl
        | true => exact absurd (hn.trans hz) ((spot_ok hok key).2.1.2 ht)
      have hve : spotV key ps = [] := by unfold spotV; rw [hth]; rfl
      exact ⟨hok, hve, by rw [hn, hz]; rfl, fun _ _ => ⟨rfl, rfl⟩, fun p hp => .inr ⟨p, hp, rfl⟩⟩
    · rw [if_neg hz]
      have hth : isThere key ps = true := (spot_ok hok key).2.1.1 (by rw [hn]; exact hz)
      obtain ⟨hi, ek, _, _⟩ := there_at hth
      have hs2 := srt_del hs (lowP key ps)
      have hno : ∀ p ∈ delP (lowP key ps) ps, p.k ≠ key := fun p hpp e => by
        unfold delP at hpp
        rcases List.mem_append.1 hpp with h | h
        · obtain ⟨q, hq, rfl⟩ := List.getElem_of_mem h
          rw [List.length_take] at hq
          rw [List.getElem_take] at e
          have := there_low hs (show q < ps.length by omega) e
          omega
        · obtain ⟨q, hq, rfl⟩ := List.getElem_of_mem h
          rw [List.length_drop] at hq
          rw [List.getElem_drop] at e
          have := there_low hs (show lowP key ps + 1 + q < ps.length by omega) e
          omega
      have hab := spot_abs hno
      refine ⟨ok_of (by have := delP_len hi; omega) hs2 (fun p hpp => hp p (mem_del hpp)), hab.1, hab.2, fun k hk => spot_same hs hs2 (fun p e => ⟨fun h => mem_del_of hi h (by rw [ek, e]; exact hk), fun h => mem_del h⟩), fun p hpp => .inr ⟨p, mem_del hpp, rfl⟩⟩
  · subst e
    by_cases hm : spotN key ps = m
    · have hm' : (n : Int) = m := by rw [← hn]; exact hm
      have e1 : cmV 4 val m (spotV key ps) n = val := by unfold cmV; simp [hm']
      have e2 : cmN 4 m n = n + 1 := by unfold cmN; simp [hm']
      have e3 : cmR 4 m (spotV key ps) n = ⟨1, [], (n : Int) + 1, []⟩ := by unfold cmR; simp [hm']
      rw [e1, e2, e3]
      exact hput val (by omega) (.inr (.inr ⟨rfl, rfl, hm⟩))
    · have hm' : ¬ (n : Int) = m := by rw [← hn]; exact hm
      have e1 : cmV 4 val m (spotV key ps) n = spotV key ps := by unfold cmV; simp [hm']
      have e2 : cmN 4 m n = n := by unfold cmN; simp [hm']
      have e3 : cmR 4 m (spotV key ps) n = tellRr 3 (spotV key ps) n := by unfold cmR; simp [hm']
      rw [e1, e2, e3, (swap_no hok hc hm).1, swap_tell hok hc hm, hn]
      exact ⟨⟨hok, rfl, hn, fun _ _ => ⟨rfl, rfl⟩, fun p hp => .inr ⟨p, hp, rfl⟩⟩, rfl⟩
  · subst e
    exact hput (spotV key ps ++ val) (by simp; omega) (.inr (.inl ⟨rfl, rfl⟩))
end Go.Proofs.YtflnjlbafchnaaaGreatDoor

/-
  Cells, plainly: some jobs on three maps and three keys: what is so at every moment, and that every step keeps it.
-/
namespace Go.Proofs.YtflnjlbafchnaaaGreatDoor

def abc : List (List UInt8) := [[97], [98], [99]]
theorem abc_len {k : List UInt8} (h : k ∈ abc) : k.length = 1 := by
  unfold abc at h
  simp only [List.mem_cons, List.not_mem_nil, or_false] at h
  rcases h with e | e | e <;> rw [e] <;> rfl
def updj (J : Nat → Jb) (i : Nat) (j : Jb) : Nat → Jb := fun x => if x = i then j else J x
theorem updj_at (J : Nat → Jb) (i : Nat) (j : Jb) : updj J i j i = j := if_pos rfl
theorem updj_ne (J : Nat → Jb) {i x : Nat} (j : Jb) (h : x ≠ i) : updj J i j x = J x := if_neg h
/-- How many of the first n have ended. -/
def endedN (J : Nat → Jb) : Nat → Nat
  | 0 => 0
  | n + 1 => endedN J n + if (J n).ph = 7 then 1 else 0
theorem ended_le (J : Nat → Jb) : ∀ n, endedN J n ≤ n
  | 0 => Nat.le_refl 0
  | n + 1 => by
    have := ended_le J n
    unfold endedN
    split <;> omega
theorem ended_lt (J : Nat → Jb) {i : Nat} (hi : (J i).ph ≠ 7) : ∀ n, i < n → endedN J n < n
  | 0, h => absurd h (by omega)
  | n + 1, h => by
    unfold endedN
    by_cases e : i = n
    · subst e
      rw [if_neg hi]
      have := ended_le J i
      omega
    · have := ended_lt J hi n (by omega)
      split <;> omega
theorem ended_same (J : Nat → Jb) (i : Nat) (j : Jb) : ∀ n, n ≤ i → endedN (updj J i j) n = endedN J n
  | 0, _ => rfl
  | n + 1, h => by
    unfold endedN
    rw [ended_same J i j n (by omega), updj_ne J j (by omega)]
theorem ended_upd (J : Nat → Jb) {i : Nat} {j : Jb} (hi : (J i).ph ≠ 7) : ∀ n, i < n → endedN (updj J i j) n = endedN J n + if j.ph = 7 then 1 else 0
  | 0, h => absurd h (by omega)
  | n + 1, h => by
    unfold endedN
    by_cases e : i = n
    · subst e
      rw [ended_same J i j i (Nat.le_refl _), updj_at, if_neg hi]
      omega
    · rw [ended_upd J hi n (by omega), updj_ne J j (fun x => e x.symm)]
      omega
/-- A job of the laws. -/
structure JbL (j : Jb) : Prop where
  ok : j.Ok
  k : j.k ∈ abc
  v : j.v.length ≤ 3
  nn : 0 ≤ j.sv ∧ 0 ≤ j.sp
/-- The run behind t steps: what each key has. -/
structure RI (S : Nat → St) (J : Nat → Jb) (n : Nat) (V : List UInt8 → List UInt8) (M : List UInt8 → Nat) (t : Nat) : Prop where
  job : ∀ i, i < n → JbL (J i)
  key : ∀ k, k ∈ abc → ∃ g0 H, KI (Kc S k) (Kn S k) g0 H (V k) (M k) ∧ H ≤ t ∧ ∀ i, i < n → (J i).k = k → JI (J i) (Kc S k) (Kn S k) g0 H
  m : ∀ k, k ∈ abc → M k ≤ t
  kn : ∀ k, k ∈ abc → ∀ g, Kn S k g ≤ t
  v : ∀ k, k ∈ abc → (V k).length ≤ 3 * endedN J n
  tx : ∀ k, k ∈ abc → ∀ g, Kn S k g ≠ 0 → (S g).v (cKey k) = ceTxt (Kc S k g)
theorem cmV_len {kd m : Int} {val v : List UInt8} {n b : Nat} (h1 : val.length ≤ 3) (h2 : v.length ≤ b) : (cmV kd val m v n).length ≤ b + 3 := by
  unfold cmV
  (repeat' split)
  all_goals (try simp only [List.length_append, List.length_nil])
  all_goals omega
theorem cmN_le (kd m : Int) (n : Nat) : cmN kd m n ≤ n + 1 := by
  unfold cmN
  (repeat' split)
  all_goals omega
theorem RI.fits {S : Nat → St} {J : Nat → Jb} {n t : Nat} {V : List UInt8 → List UInt8} {M : List UInt8 → Nat} (h : RI S J n V M t) (hn : n ≤ 7) (ht : t < 999999) {i : Nat} (hi : i < n) (hp : (J i).ph ≤ 6) :
    (cmV (J i).kd (J i).v (J i).m (V (J i).k) (M (J i).k)).length ≤ 32 ∧ cmN (J i).kd (J i).m (M (J i).k) ≤ 999999 := by
  have hk := (h.job i hi).k
  have h1 := h.v _ hk
  have h2 := ended_lt J (i := i) (by omega) n hi
  have h3 := h.m _ hk
  have h4 := cmN_le (J i).kd (J i).m (M (J i).k)
  have h5 := cmV_len (kd := (J i).kd) (m := (J i).m) (n := M (J i).k) (h.job i hi).v h1
  omega
theorem tellNn {kd : Int} {v : List UInt8} {n : Int} (h : 0 ≤ n) : 0 ≤ versR (tellRr kd v n) := by
  unfold versR tellRr
  by_cases c : n = 0
  · rw [if_pos c]
    simp
  · rw [if_neg c]
    simp only
    split
    · exact h
    · exact Int.le_refl _
theorem answerNn {j : Jb} (h : 0 ≤ j.sv ∧ 0 ≤ j.sp) {r : Rr} (hr : 0 ≤ versR r) : 0 ≤ (j.answer r).sv ∧ 0 ≤ (j.answer r).sp := by
  have hs : ∀ i : Jb, (0 ≤ i.sv ∧ 0 ≤ i.sp) → 0 ≤ i.seen.sv ∧ 0 ≤ i.seen.sp := fun i hi => by
    unfold Jb.seen Jb.handOver Jb.apply Jb.follow Jb.finK Jb.fin
    (repeat' split) <;> exact hi
  unfold Jb.answer
  split
  · unfold Jb.hasRead
    split
    · exact h
    · exact hs _ ⟨hr, h.2⟩
  · split
    · unfold Jb.hasWritten Jb.finK Jb.fin
      split
      · rename_i hc
        refine ⟨?_, h.2⟩
        unfold versR at hr
        rw [if_pos hc.1] at hr
        exact hr
      · (repeat' split) <;> exact h
    · split
      · unfold Jb.hasPrepared
        (repeat' split) <;> exact h
      · split
        · unfold Jb.hasRoom Jb.finK Jb.fin
          (repeat' split) <;> exact h
        · split
          · unfold Jb.hasLooked
            split
            · exact h
            · exact ⟨h.1, hr⟩
          · split
            · exact h
            · split
              · unfold Jb.hasSealed Jb.finK Jb.fin Jb.follow
                (repeat' split) <;> exact h
              · exact h
theorem nextNn {j : Jb} (h : 0 ≤ j.sv ∧ 0 ≤ j.sp) : 0 ≤ j.next.2.1.m := by
  unfold Jb.next
  (repeat' split)
  all_goals first | exact Int.le_refl _ | exact h.1 | exact h.2
/-- The version that a job names is not above what is there. -/
theorem next_m {j : Jb} {C : Nat → Ce} {N : Nat → Int} {g0 H : Nat} (i : JI j C N g0 H) {t : Nat} (h : ∀ g, N g ≤ t) : j.next.2.1.m ≤ t := by
  unfold Jb.next
  split
  · exact Int.natCast_nonneg t
  · split
    · rename_i h0 h1
      exact Int.le_trans (i.lock (by omega) (by omega)).1 (h _)
    · split
      · exact Int.natCast_nonneg t
      · split
        · exact Int.natCast_nonneg t
        · split
          · exact Int.natCast_nonneg t
          · split
            · rename_i h5
              exact Int.le_trans (i.put h5).1 (h _)
            · split
              · rename_i h6
                exact Int.le_trans (i.lock (by omega) (by omega)).1 (h _)
              · exact Int.natCast_nonneg t
theorem go_nn {S : Nat → St} {j : Jb} (h : 0 ≤ j.sv ∧ 0 ≤ j.sp) (hS : ∀ g, 0 ≤ Kn S j.k g) : 0 ≤ (j.go S).2.sv ∧ 0 ≤ (j.go S).2.sp := by
  unfold Jb.go
  split
  · exact answerNn h (tellNn (hS _))
  · split
    · refine answerNn h ?_
      unfold versR
      have := nextNn h
      simp
      omega
    · exact answerNn h (tellNn (hS _))
/-- What is written says just what it says. -/
theorem go_tx {S : Nat → St} {j : Jb} (o : j.Ok) (hp : j.ph ≤ 6) (hS : ∀ g, 0 ≤ Kn S j.k g) (h : ∀ k, k ∈ abc → ∀ g, Kn S k g ≠ 0 → (S g).v (cKey k) = ceTxt (Kc S k g)) :
    ∀ k, k ∈ abc → ∀ g, Kn (j.go S).1 k g ≠ 0 → ((j.go S).1 g).v (cKey k) = ceTxt (Kc (j.go S).1 k g) := by
  by_cases hr : j.ph = 0 ∨ j.ph = 2 ∨ j.ph = 4
  · have e : (j.go S).1 = S := by unfold Jb.go; rw [if_pos hr]
    rw [e]
    exact h
  · have hw : j.ph = 1 ∨ j.ph = 3 ∨ j.ph = 5 ∨ j.ph = 6 := by omega
    by_cases hm : (S j.next.1).n (cKey j.k) = j.next.2.1.m
    · have e : (j.go S).1 = swapS S j.next.1 j.k j.wr := by unfold Jb.go; rw [if_neg hr, if_pos hm]
      rw [e]
      intro k hk g hg
      obtain ⟨e1, e2⟩ := kc_swap (S := S) (g := j.next.1) (k := j.k) (Jb.wr_ok o hw) (hS _)
      by_cases ek : k = j.k
      · subst ek
        by_cases eg : g = j.next.1
        · rw [e1, eg, updc_at]
          unfold swapS
          rw [updc_at]
          exact if_pos rfl
        · rw [e2, updc_ne _ _ eg] at hg
          rw [e1, updc_ne _ _ eg]
          have := h _ hk g hg
          unfold swapS
          rw [updc_ne _ _ eg]
          exact this
      · obtain ⟨f1, f2⟩ := kc_other (S := S) (g := j.next.1) (k := j.k) (c := j.wr) ek
        rw [f2] at hg
        rw [f1, ← h k hk g hg]
        have hck : cKey k ≠ cKey j.k := fun e => ek (List.cons.inj e).2
        unfold swapS
        by_cases eg : g = j.next.1
        · rw [eg, updc_at]
          exact if_neg hck
        · rw [updc_ne _ _ eg]
    · have e : (j.go S).1 = S := by unfold Jb.go; rw [if_neg hr, if_neg hm]
      rw [e]
      exact h
/-- What one step makes of what the keys have. -/
structure MadeC (j j' : Jb) (V V' : List UInt8 → List UInt8) (M M' : List UInt8 → Nat) : Prop where
  ef : Ef j j' (V j.k) (M j.k) (V' j.k) (M' j.k)
  oth : ∀ k, k ≠ j.k → V' k = V k ∧ M' k = M k
  st : j'.kd = j.kd ∧ j'.k = j.k ∧ j'.v = j.v ∧ j'.m = j.m ∧ j'.tg = j.tg
/-- From a step of one to the whole. -/
theorem RI.build {S : Nat → St} {J : Nat → Jb} {n t : Nat} {V : List UInt8 → List UInt8} {M : List UInt8 → Nat} (h : RI S J n V M t) {i : Nat} (hi : i < n) (hp : (J i).ph ≤ 6) {g0 H g0' H' n' : Nat} {v' : List UInt8}
    (ht : H ≤ t) (hj : ∀ x, x < n → (J x).k = (J i).k → JI (J x) (Kc S (J i).k) (Kn S (J i).k) g0 H)
    (q1 : KI (Kc ((J i).go S).1 (J i).k) (Kn ((J i).go S).1 (J i).k) g0' H' v' n') (q2 : JI ((J i).go S).2 (Kc ((J i).go S).1 (J i).k) (Kn ((J i).go S).1 (J i).k) g0' H')
    (q3 : Lv (Kc S (J i).k) (Kn S (J i).k) g0 H (Kc ((J i).go S).1 (J i).k) (Kn ((J i).go S).1 (J i).k) g0' H') (q4 : Ef (J i) ((J i).go S).2 (V (J i).k) (M (J i).k) v' n') :
    ∃ V' M', RI ((J i).go S).1 (updj J i ((J i).go S).2) n V' M' (t + 1) ∧ MadeC (J i) ((J i).go S).2 V V' M M' ∧ V' (J i).k = v' ∧ M' (J i).k = n' := by
  have hk := (h.job i hi).k
  have hst := Jb.go_st (J i) S
  obtain ⟨k, Hk⟩ : ∃ k, k = (J i).k := ⟨_, rfl⟩
  obtain ⟨j', Hj⟩ : ∃ j', j' = ((J i).go S).2 := ⟨_, rfl⟩
  obtain ⟨S', HS⟩ : ∃ S', S' = ((J i).go S).1 := ⟨_, rfl⟩
  have hoth : ∀ x, x ≠ (J i).k → Kc ((J i).go S).1 x = Kc S x ∧ Kn ((J i).go S).1 x = Kn S x := fun x hx => Jb.go_other (J i) S hx
  have hok := Jb.go_ok (h.job i hi).ok S
  have hn0 : ∀ g, 0 ≤ Kn S (J i).k g := fun g => by obtain ⟨_, _, k1, _⟩ := h.key _ hk; exact k1.n0 g
  have hnn := go_nn (S := S) (h.job i hi).nn hn0
  have htx := go_tx (h.job i hi).ok hp hn0 h.tx
  rw [← Hj] at q2 q4 hst hok hnn ⊢
  rw [← HS] at q1 q2 q3 hoth htx ⊢
  have hend := ended_upd J (i := i) (j := j') (by omega) n hi
  refine ⟨fun x => if x = (J i).k then v' else V x, fun x => if x = (J i).k then n' else M x, ⟨fun x hx => ?_, fun x hx => ?_, fun x hx => ?_, fun x hx g => ?_, fun x hx => ?_, htx⟩, ⟨?_, fun x hx => ⟨if_neg hx, if_neg hx⟩, hst⟩, if_pos rfl, if_pos rfl⟩
  · by_cases e : x = i
    · subst e
      rw [updj_at]
      exact ⟨hok, by rw [hst.2.1]; exact hk, by rw [hst.2.2.1]; exact (h.job x hi).v, hnn⟩
    · rw [updj_ne J _ e]
      exact h.job x hx
  · by_cases e : x = (J i).k
    · subst e
      refine ⟨g0', H', ?_, by have := q3.hh; omega, fun y hy ey => ?_⟩
      · simp only [if_true]
        exact q1
      · by_cases ei : y = i
        · subst ei
          rw [updj_at]
          exact q2
        · rw [updj_ne J _ ei] at ey ⊢
          exact (hj y hy ey).leave q3
    · obtain ⟨a, b, k1, k2, k3⟩ := h.key x hx
      obtain ⟨o1, o2⟩ := hoth x e
      refine ⟨a, b, ?_, by omega, fun y hy ey => ?_⟩
      · rw [o1, o2]
        simp only [if_neg e]
        exact k1
      · rw [o1, o2]
        by_cases ei : y = i
        · subst ei
          rw [updj_at, hst.2.1] at ey
          exact absurd ey.symm e
        · rw [updj_ne J _ ei] at ey ⊢
          exact k3 y hy ey
  · by_cases e : x = (J i).k
    · simp only [if_pos e]
      have h1 := h.m _ hk
      have h2 := cmN_le (J i).kd (J i).m (M (J i).k)
      by_cases e7 : j'.ph = 7
      · obtain ⟨f1, f2⟩ := q4.1 e7
        by_cases et : (J i).tg = 0
        · have := (f1 et).2.1; omega
        · have := (f2 (by omega)).2.1; omega
      · have := (q4.2 e7).2; omega
    · simp only [if_neg e]
      have := h.m x hx
      omega
  · by_cases e : x = (J i).k
    · subst e
      have := q3.n1 g
      have := h.kn _ hk g
      omega
    · rw [(hoth x e).2]
      have := h.kn x hx g
      omega
  · rw [hend]
    by_cases e : x = (J i).k
    · simp only [if_pos e]
      have h1 := h.v _ hk
      by_cases e7 : j'.ph = 7
      · rw [if_pos e7]
        obtain ⟨f1, f2⟩ := q4.1 e7
        by_cases et : (J i).tg = 0
        · rw [(f1 et).1]
          have := cmV_len (kd := (J i).kd) (m := (J i).m) (n := M (J i).k) (h.job i hi).v h1
          omega
        · rw [(f2 (by omega)).1]; omega
      · rw [(q4.2 e7).1]; omega
    · simp only [if_neg e]
      have := h.v x hx
      omega
  · simp only [if_true]
    exact q4
theorem RI.step {S : Nat → St} {J : Nat → Jb} {n t : Nat} {V : List UInt8 → List UInt8} {M : List UInt8 → Nat} (h : RI S J n V M t) (hn : n ≤ 7) (ht : t < 999999) {i : Nat} (hi : i < n) (hp : (J i).ph ≤ 6) :
    ∃ V' M', RI ((J i).go S).1 (updj J i ((J i).go S).2) n V' M' (t + 1) ∧ MadeC (J i) ((J i).go S).2 V V' M M' := by
  obtain ⟨g0, H, k1, k2, k3⟩ := h.key _ (h.job i hi).k
  obtain ⟨g0', H', v', n', q1, q2, q3, q4⟩ := go_step k1 (k3 i hi rfl) (h.job i hi).ok hp (fun _ => h.fits hn ht hi hp) (by omega)
  obtain ⟨V', M', r1, r2, _⟩ := h.build hi hp k2 k3 q1 q2 q3 q4
  exact ⟨V', M', r1, r2⟩
/-- One that goes on alone: how many commands it has left at most. -/
def Solo1 (S : Nat → St) (j : Jb) (u : Nat) : Prop := ∀ g0 H v n, KI (Kc S j.k) (Kn S j.k) g0 H v n → Lk j (Kc S j.k) (Kn S j.k) g0 ∧ muC j (Kc S j.k) (Kn S j.k) g0 ≤ u
/-- Where a key is, is one place. -/
theorem KI.uniq {C : Nat → Ce} {N : Nat → Int} {g0 H g1 H1 n n1 : Nat} {v v1 : List UInt8} (k : KI C N g0 H v n) (k1 : KI C N g1 H1 v1 n1) : g1 = g0 := by
  have a := find_is k
  rw [find_is k1] at a
  exact (Prod.mk.inj a).1
theorem RI.solo {S : Nat → St} {J : Nat → Jb} {n t : Nat} {V : List UInt8 → List UInt8} {M : List UInt8 → Nat} (h : RI S J n V M t) (hn : n ≤ 7) (ht : t < 999999) {i u : Nat} (hi : i < n) (hp : (J i).ph ≤ 6) (hs : Solo1 S (J i) u) :
    ∃ V' M', RI ((J i).go S).1 (updj J i ((J i).go S).2) n V' M' (t + 1) ∧ MadeC (J i) ((J i).go S).2 V V' M M' ∧ 0 < u ∧ Solo1 ((J i).go S).1 ((J i).go S).2 (u - 1) := by
  obtain ⟨g0, H, k1, k2, k3⟩ := h.key _ (h.job i hi).k
  obtain ⟨l1, l2⟩ := hs _ _ _ _ k1
  obtain ⟨g0', H', v', n', q1, q2, q3, q4, q5, q6⟩ := solo_go k1 (k3 i hi rfl) l1 (h.job i hi).ok hp (fun _ => h.fits hn ht hi hp) (by omega)
  obtain ⟨V', M', r1, r2, _⟩ := h.build hi hp k2 k3 q1 q2 q3 q4
  have hst := Jb.go_st (J i) S
  refine ⟨V', M', r1, r2, by omega, fun a b v n kk => ?_⟩
  rw [hst.2.1] at kk ⊢
  have := q1.uniq kk
  subst this
  exact ⟨q5, by omega⟩
/-- Where nothing was written: all keys are with the first group. -/
theorem RI.first {S : Nat → St} {J : Nat → Jb} {n : Nat} (hS : ∀ g k, (S g).n k = 0) (hJ : ∀ i, i < n → JbL (J i)) (hN : ∀ i, i < n → ∃ kd k v m tg at', J i = Jb.new kd k v m tg at' ∧ 1 ≤ at' ∧ at' ≤ 3 ∧ tg ≤ 3) : RI S J n (fun _ => []) (fun _ => 0) 0 := by
  have hKn : ∀ k g, Kn S k g = 0 := fun k g => hS g _
  have hKc : ∀ k g, Kc S k g = unsaid g := fun k g => by unfold Kc; rw [if_pos (hS g _)]
  have u1 : unsaid 1 = ⟨[], 0, 0, 0, 0⟩ := rfl
  have u2 : ∀ g, g ≠ 1 → unsaid g = ⟨[], 0, 2, 0, 1⟩ := fun g hg => if_neg hg
  refine ⟨hJ, fun k _ => ⟨1, 0, ⟨by omega, by omega, by rw [hKc]; rfl, by rw [hKc]; rfl, .inl (by rw [hKc]; exact ⟨rfl, rfl, rfl⟩), fun g g1 g3 hg => ?_, fun g => by rw [hKc]; exact unsaid_ok g, fun g _ => hKc k g, fun g => by rw [hKn]; exact Int.le_refl 0⟩, Nat.le_refl 0, fun i hi _ => ?_⟩, fun _ _ => Nat.le_refl 0, fun k _ g => by rw [hKn]; exact Int.le_refl 0, fun _ _ => Nat.zero_le _, fun k _ g e => absurd (hKn k g) e⟩
  · rw [hKc, u2 g hg]
    exact ⟨by simp, by simp, by simp, by simp, .inl rfl⟩
  · obtain ⟨kd, k', v, m, tg, at', e, a1, a3, t3⟩ := hN i hi
    rw [e]
    exact ⟨a1, a3, t3, rfl, by simp [Jb.new], fun x => by simp [Jb.new] at x, fun x => by simp [Jb.new] at x, fun x => by simp [Jb.new] at x, fun x => by simp [Jb.new] at x, fun x => by simp [Jb.new] at x, fun x => by simp [Jb.new] at x, fun x => by simp [Jb.new] at x, fun x => by simp [Jb.new] at x, fun x => by simp [Jb.new] at x⟩
/-- One that begins where its key is, all keys being with the first group. -/
theorem Solo1.first {S : Nat → St} (hS : ∀ g k, (S g).n k = 0) (kd : Int) (k v : List UInt8) (m : Int) (tg : Nat) : Solo1 S (Jb.new kd k v m tg 1) 9 := fun g0 H v' n' kk => by
  obtain ⟨_, l2⟩ := muC_new kd k v m tg 1 (Kc S (Jb.new kd k v m tg 1).k) (Kn S (Jb.new kd k v m tg 1).k) g0
  refine ⟨l2, ?_⟩
  have hKc : ∀ k g, Kc S k g = unsaid g := fun k g => by unfold Kc; rw [if_pos (hS g _)]
  have h0 : g0 = 1 := by
    have := kk.here (g := 1) (by omega) (by omega) (by rw [hKc]; rfl)
    exact this.1.symm
  subst h0
  show 3 * dist _ 1 1 + homeR _ 1 + 6 + roomR _ _ ≤ 9
  rw [dist_home]
  have h2 : homeR (Kc S (Jb.new kd k v m tg 1).k) 1 = 0 := by unfold homeR; rw [hKc]; rfl
  have h3 : ∀ (N : Nat → Int) (j : Jb), roomR N j ≤ 3 := fun N j => by unfold roomR; split <;> omega
  rw [h2]
  have := h3 (Kn S (Jb.new kd k v m tg 1).k) (Jb.new kd k v m tg 1)
  omega
/-- One that begins anywhere. -/
theorem Solo1.new {S : Nat → St} (kd : Int) (k v : List UInt8) (m : Int) (tg at' : Nat) : Solo1 S (Jb.new kd k v m tg at') 19 := fun g0 H v' n' kk => by
  have := muC_new kd k v m tg at' (Kc S (Jb.new kd k v m tg at').k) (Kn S (Jb.new kd k v m tg at').k) g0
  exact ⟨this.2, this.1⟩
/-- One more that begins. -/
theorem RI.add {S : Nat → St} {J : Nat → Jb} {n t : Nat} {V : List UInt8 → List UInt8} {M : List UInt8 → Nat} (h : RI S J n V M t) {kd : Int} {k v : List UInt8} {m : Int} {tg at' : Nat} (hj : JbL (Jb.new kd k v m tg at')) (a1 : 1 ≤ at') (a3 : at' ≤ 3) (t3 : tg ≤ 3) : RI S (updj J n (Jb.new kd k v m tg at')) (n + 1) V M t := by
  refine ⟨fun i hi => ?_, fun x hx => ?_, h.m, h.kn, fun x hx => ?_, h.tx⟩
  · by_cases e : i = n
    · rw [e, updj_at]; exact hj
    · rw [updj_ne J _ e]; exact h.job i (by omega)
  · obtain ⟨g0, H, k1, k2, k3⟩ := h.key x hx
    refine ⟨g0, H, k1, k2, fun i hi e => ?_⟩
    by_cases ei : i = n
    · rw [ei, updj_at]
      exact ⟨a1, a3, t3, rfl, by simp [Jb.new], fun x => by simp [Jb.new] at x, fun x => by simp [Jb.new] at x, fun x => by simp [Jb.new] at x, fun x => by simp [Jb.new] at x, fun x => by simp [Jb.new] at x, fun x => by simp [Jb.new] at x, fun x => by simp [Jb.new] at x, fun x => by simp [Jb.new] at x, fun x => by simp [Jb.new] at x⟩
    · rw [updj_ne J _ ei] at e ⊢
      exact k3 i (by omega) e
  · show (V x).length ≤ 3 * (endedN (updj J n (Jb.new kd k v m tg at')) n + _)
    rw [ended_same J n _ n (Nat.le_refl _)]
    have := h.v x hx
    omega
end Go.Proofs.YtflnjlbafchnaaaGreatDoor

/-
  Cells, plainly: the run over pairs, and the single map beside it.
-/
namespace Go.Proofs.YtflnjlbafchnaaaGreatDoor

theorem fewC : ∀ {ks K : List (List UInt8)}, ks.Pairwise (· ≠ ·) → (∀ k ∈ ks, k ∈ K) → ks.length ≤ K.length
  | [], _, _, _ => Nat.zero_le _
  | k :: ks, K, hp, hs => by
    have hk : k ∈ K := hs k (List.mem_cons_self ..)
    have h1 : ∀ j ∈ ks, k ≠ j := fun j hj => List.rel_of_pairwise_cons hp hj
    have h2 := fewC (ks := ks) (K := K.erase k) (List.Pairwise.of_cons hp) (fun j hj => (List.mem_erase_of_ne (Ne.symm (h1 j hj))).2 (hs j (List.mem_cons_of_mem _ hj)))
    rw [List.length_erase_of_mem hk] at h2
    have := List.length_pos_of_mem hk
    simp only [List.length_cons]
    omega
theorem fewP {ps : List Pr} {K : List (List UInt8)} (hok : pairsOk ps = true) (h : ∀ p ∈ ps, p.k ∈ K) : ps.length ≤ K.length := by
  have hs : Srt ps := (pairs_ok hok).2.1
  have h1 : (ps.map Pr.k).Pairwise (· ≠ ·) := by
    rw [List.pairwise_map]
    refine hs.imp (fun {a b} hl e => ?_)
    rw [e, less_irrefl] at hl
    cases hl
  have := fewC h1 (K := K) (fun k hk => by
    obtain ⟨p, hp, rfl⟩ := List.mem_map.1 hk
    exact h p hp)
  rw [List.length_map] at this
  exact this
def jP (j : Jb) (ps : List Pr) : List Pr := apP j.next.2.1.kd j.next.2.1.k j.next.2.1.v j.next.2.1.m ps
def jR (j : Jb) (ps : List Pr) : Rr := apR j.next.2.1.kd j.next.2.1.k j.next.2.1.v j.next.2.1.m ps
/-- The run over pairs. -/
structure CR (ms : List (List Pr)) (J : Nat → Jb) (n : Nat) (V : List UInt8 → List UInt8) (M : List UInt8 → Nat) (t : Nat) : Prop where
  ri : RI (SM ms) J n V M t
  len : ms.length = 3
  ok : ∀ ps ∈ ms, pairsOk ps = true
  ks : ∀ ps ∈ ms, ∀ p ∈ ps, p.k ∈ abc.map cKey
  cmd : ∀ i, i < n → isCmd (J i).kd (J i).k (J i).v (J i).m = true
variable {ms : List (List Pr)} {J : Nat → Jb} {n t : Nat} {V : List UInt8 → List UInt8} {M : List UInt8 → Nat}
theorem CR.grp (h : CR ms J n V M t) {i : Nat} (hi : i < n) (hp : (J i).ph ≤ 6) : 1 ≤ (J i).next.1 ∧ (J i).next.1 ≤ 3 ∧ (J i).next.2.2 = true := by
  obtain ⟨g0, H, _, _, k3⟩ := h.ri.key _ (h.ri.job i hi).k
  exact next_grp (k3 i hi rfl) hp
theorem CR.lift (h : CR ms J n V M t) (ht : t < 999999) {i : Nat} (hi : i < n) (hp : (J i).ph ≤ 6) {ps : List Pr} (hps : ms[(J i).next.1 - 1]? = some ps) :
    SM (ms.set ((J i).next.1 - 1) (jP (J i) ps)) = ((J i).go (SM ms)).1 ∧ (J i).answer (jR (J i) ps) = ((J i).go (SM ms)).2
      ∧ ∀ V' M', RI ((J i).go (SM ms)).1 (updj J i ((J i).go (SM ms)).2) n V' M' (t + 1) → CR (ms.set ((J i).next.1 - 1) (jP (J i) ps)) (updj J i ((J i).answer (jR (J i) ps))) n V' M' (t + 1) := by
  obtain ⟨g1, g3, _⟩ := h.grp hi hp
  obtain ⟨g0, H, k1, k2, k3⟩ := h.ri.key _ (h.ri.job i hi).k
  have hmem : ps ∈ ms := List.mem_of_getElem? hps
  have hok := h.ok ps hmem
  have hfew := fewP hok (h.ks ps hmem)
  have h3 : (abc.map cKey).length = 3 := rfl
  have hkn := h.ri.kn _ (h.ri.job i hi).k
  have hsp : spotN (cKey (J i).k) ps ≤ t := by
    have := hkn (J i).next.1
    unfold Kn at this
    rw [SM_at g1 hps] at this
    exact this
  have hm := next_m (k3 i hi rfl) hkn
  obtain ⟨q1, q2, q3, q4⟩ := jgo_is (j := J i) (ms := ms) (ps := ps) g1 (by rw [h.len]; exact g3) hps hok (h.ri.job i hi).ok (h.ri.job i hi).nn hp (.inl (by omega)) (by omega) (by omega)
  refine ⟨q1, q2, fun V' M' hr => ⟨?_, by rw [List.length_set]; exact h.len, fun qs hq => ?_, fun qs hq p hpq => ?_, fun x hx => ?_⟩⟩
  · show RI (SM (ms.set ((J i).next.1 - 1) (jP (J i) ps))) (updj J i ((J i).answer (jR (J i) ps))) n V' M' (t + 1)
    have e1 : SM (ms.set ((J i).next.1 - 1) (jP (J i) ps)) = ((J i).go (SM ms)).1 := q1
    have e2 : (J i).answer (jR (J i) ps) = ((J i).go (SM ms)).2 := q2
    rw [e1, e2]
    exact hr
  · rcases List.mem_or_eq_of_mem_set hq with hq | hq
    · exact h.ok qs hq
    · rw [hq]; exact q3
  · rcases List.mem_or_eq_of_mem_set hq with hq | hq
    · exact h.ks qs hq p hpq
    · rw [hq] at hpq
      rcases q4 p hpq with e | ⟨q, hqp, e⟩
      · rw [e]
        exact List.mem_map.2 ⟨_, (h.ri.job i hi).k, rfl⟩
      · rw [← e]
        exact h.ks ps hmem q hqp
  · by_cases e : x = i
    · subst e
      rw [updj_at]
      obtain ⟨s1, s2, s3, s4, _⟩ := Jb.answer_st (J x) (jR (J x) ps)
      rw [s1, s2, s3, s4]
      exact h.cmd x hi
    · rw [updj_ne J _ e]
      exact h.cmd x hx
theorem CR.step (h : CR ms J n V M t) (hn : n ≤ 7) (ht : t < 999999) {i : Nat} (hi : i < n) (hp : (J i).ph ≤ 6) {ps : List Pr} (hps : ms[(J i).next.1 - 1]? = some ps) :
    ∃ V' M', CR (ms.set ((J i).next.1 - 1) (jP (J i) ps)) (updj J i ((J i).answer (jR (J i) ps))) n V' M' (t + 1) ∧ MadeC (J i) ((J i).answer (jR (J i) ps)) V V' M M' := by
  obtain ⟨q1, q2, q3⟩ := h.lift ht hi hp hps
  obtain ⟨V', M', r1, r2⟩ := h.ri.step hn ht hi hp
  refine ⟨V', M', q3 V' M' r1, ?_⟩
  rw [q2]
  exact r2
theorem CR.solo (h : CR ms J n V M t) (hn : n ≤ 7) (ht : t < 999999) {i u : Nat} (hi : i < n) (hp : (J i).ph ≤ 6) (hs : Solo1 (SM ms) (J i) u) {ps : List Pr} (hps : ms[(J i).next.1 - 1]? = some ps) :
    ∃ V' M', CR (ms.set ((J i).next.1 - 1) (jP (J i) ps)) (updj J i ((J i).answer (jR (J i) ps))) n V' M' (t + 1) ∧ MadeC (J i) ((J i).answer (jR (J i) ps)) V V' M M' ∧ 0 < u ∧ Solo1 (SM (ms.set ((J i).next.1 - 1) (jP (J i) ps))) ((J i).answer (jR (J i) ps)) (u - 1) := by
  obtain ⟨q1, q2, q3⟩ := h.lift ht hi hp hps
  obtain ⟨V', M', r1, r2, r3, r4⟩ := h.ri.solo hn ht hi hp hs
  refine ⟨V', M', q3 V' M' r1, ?_, r3, ?_⟩
  · rw [q2]; exact r2
  · rw [q1, q2]; exact r4
theorem CR.more (h : CR ms J n V M t) {t' : Nat} (ht : t ≤ t') : CR ms J n V M t' :=
  { h with ri := ⟨h.ri.job, fun k hk => by obtain ⟨g0, H, k1, k2, k3⟩ := h.ri.key k hk; exact ⟨g0, H, k1, Nat.le_trans k2 ht, k3⟩, fun k hk => Nat.le_trans (h.ri.m k hk) ht, fun k hk g => by have := h.ri.kn k hk g; omega, h.ri.v, h.ri.tx⟩ }
/-- An ended one stays as it is; one that has not ended works. -/
theorem CR.state (h : CR ms J n V M t) {i : Nat} (hi : i < n) : (J i).st = if (J i).ph = 7 then 2 else 1 := by
  obtain ⟨g0, H, _, _, k3⟩ := h.ri.key _ (h.ri.job i hi).k
  exact (k3 i hi rfl).st
theorem CR.say (h : CR ms J n V M t) {k : List UInt8} (hk : k ∈ abc) : sayM k ms = Kc (SM ms) k := funext fun g => sayM_is h.ok (by have := abc_len hk; omega) g
theorem CR.find (h : CR ms J n V M t) {k : List UInt8} (hk : k ∈ abc) : ∃ g0, 1 ≤ g0 ∧ g0 ≤ 3 ∧ findG (sayM k ms) 3 3 1 = (g0, V k, M k) ∧ ((M k) = 0 → V k = []) := by
  obtain ⟨g0, H, k1, _, _⟩ := h.ri.key k hk
  refine ⟨g0, k1.g1, k1.g3, ?_, fun e => ?_⟩
  · rw [h.say hk]
    exact find_is k1
  · have := (k1.ok g0).vn
    rw [k1.hn, k1.hv] at this
    exact this e
theorem CR.movs (h : CR ms J n V M t) {k : List UInt8} (hk : k ∈ abc) : ∀ g, (sayM k ms g).s = 1 → (sayM k ms g).g ≤ ms.length := fun g hs => by
  rw [h.say hk] at hs ⊢
  rw [h.len]
  obtain ⟨g0, H, k1, _, _⟩ := h.ri.key k hk
  by_cases hg : 1 ≤ g ∧ g ≤ 3
  · exact (k1.moving hg.1 hg.2 hs).2.1
  · exfalso
    have e : SM ms g = St.of [] := by
      unfold SM
      by_cases h0 : g = 0
      · rw [if_pos h0]
      · rw [if_neg h0, List.getElem?_eq_none (by rw [h.len]; omega)]
        rfl
    have : Kn (SM ms) k g = 0 := by
      unfold Kn
      rw [e]
      rfl
    rw [k1.un g this] at hs
    unfold unsaid at hs
    split at hs <;> simp at hs
/-! ### who says 'here' -/
def hereAt (ms : List (List Pr)) (k : List UInt8) (i : Nat) : Bool := decide (4 < (apR 2 (cKey k) [] 0 ((ms[i]?).getD [])).v.length) && decide ((apR 2 (cKey k) [] 0 ((ms[i]?).getD [])).v.take 4 = wHere)
def hereN (ms : List (List Pr)) (k : List UInt8) : Nat → Nat
  | 0 => 0
  | i + 1 => hereN ms k i + if hereAt ms k i = true then 1 else 0
theorem CR.here1 (h : CR ms J n V M t) {k : List UInt8} (hk : k ∈ abc) {i j : Nat} (hi : i < 3) (hj : j < 3) (h1 : hereAt ms k i = true) (h2 : hereAt ms k j = true) : i = j := by
  obtain ⟨g0, H, k1, _, _⟩ := h.ri.key k hk
  have one : ∀ x, x < 3 → hereAt ms k x = true → x + 1 = g0 := fun x hx hh => by
    unfold hereAt at hh
    simp only [Bool.and_eq_true, decide_eq_true_eq] at hh
    obtain ⟨ps, hps⟩ : ∃ ps, ms[x]? = some ps := ⟨_, List.getElem?_eq_getElem (by rw [h.len]; exact hx)⟩
    rw [hps] at hh
    have hmem : ps ∈ ms := List.mem_of_getElem? hps
    rw [show (some ps).getD [] = ps from rfl, get_tell (h.ok _ hmem) (cKey_get (by have := abc_len hk; omega))] at hh
    have hsm : SM ms (x + 1) = St.of ps := SM_at (by omega) hps
    have hne : Kn (SM ms) k (x + 1) ≠ 0 := fun e => by
      unfold Kn at e
      rw [hsm] at e
      have e' : spotN (cKey k) ps = 0 := e
      unfold tellRr at hh
      rw [if_pos e'] at hh
      exact absurd hh.1 (by simp)
    have htx := h.ri.tx k hk (x + 1) hne
    unfold Kn at hne
    rw [hsm] at hne htx
    have hne' : spotN (cKey k) ps ≠ 0 := hne
    have htx' : spotV (cKey k) ps = ceTxt (Kc (SM ms) k (x + 1)) := htx
    unfold tellRr at hh
    rw [if_neg hne'] at hh
    simp only [htx'] at hh
    have hs := (txt_here (k1.ok (x + 1)).s).1 hh
    exact (k1.here (by omega) (by omega) hs).1
  have a := one i hi h1
  have b := one j hj h2
  omega
theorem CR.hereN (h : CR ms J n V M t) {k : List UInt8} (hk : k ∈ abc) : hereN ms k 3 ≤ 1 := by
  have h01 := fun a b => h.here1 hk (i := 0) (j := 1) (by omega) (by omega) a b
  have h02 := fun a b => h.here1 hk (i := 0) (j := 2) (by omega) (by omega) a b
  have h12 := fun a b => h.here1 hk (i := 1) (j := 2) (by omega) (by omega) a b
  show 0 + (if hereAt ms k 0 = true then 1 else 0) + (if hereAt ms k 1 = true then 1 else 0) + (if hereAt ms k 2 = true then 1 else 0) ≤ 1
  by_cases a : hereAt ms k 0 = true
  · by_cases b : hereAt ms k 1 = true
    · have := h01 a b; omega
    · by_cases c : hereAt ms k 2 = true
      · have := h02 a c; omega
      · simp [a, b, c]
  · by_cases b : hereAt ms k 1 = true
    · by_cases c : hereAt ms k 2 = true
      · have := h12 b c; omega
      · simp [a, b, c]
    · by_cases c : hereAt ms k 2 = true
      · simp [a, b, c]
      · simp [a, b, c]
theorem hereN_le (ms : List (List Pr)) (k : List UInt8) : ∀ i, hereN ms k i ≤ i
  | 0 => Nat.le_refl 0
  | i + 1 => by
    have := hereN_le ms k i
    show Go.Proofs.YtflnjlbafchnaaaGreatDoor.hereN ms k i + _ ≤ i + 1
    split <;> omega
/-! ### the single map -/
structure OneI (one : List Pr) (V : List UInt8 → List UInt8) (M : List UInt8 → Nat) : Prop where
  ok : pairsOk one = true
  at' : ∀ k, k ∈ abc → spotV k one = V k ∧ spotN k one = M k
  ks : ∀ p ∈ one, p.k ∈ abc
theorem OneI.first : OneI [] (fun _ => []) (fun _ => 0) := ⟨rfl, fun k _ => ⟨rfl, rfl⟩, fun p hp => (by cases hp)⟩
theorem OneI.get {one : List Pr} (h : OneI one V M) {k : List UInt8} (hk : k ∈ abc) : apR 2 k [] 0 one = tellRr 1 (V k) (M k) := by
  have hc : isCmd 2 k [] 0 = true := by
    have := abc_len hk
    unfold isCmd
    have hne : k.isEmpty = false := by cases k with | nil => simp at this | cons _ _ => rfl
    simp [isNum, hne]
    omega
  rw [get_tell h.ok hc, (h.at' k hk).1, (h.at' k hk).2]
/-- A job that has ended, on the single map. -/
theorem OneI.step {one : List Pr} (h : OneI one V M) (hc : CR ms J n V M t) (hn : n ≤ 7) (ht : t < 999999) {i : Nat} (hi : i < n) (hp : (J i).ph ≤ 6) {j' : Jb} {V' : List UInt8 → List UInt8} {M' : List UInt8 → Nat} (hm : MadeC (J i) j' V V' M M') (h7 : j'.ph = 7) (h0 : (J i).tg = 0) :
    OneI (apP (J i).kd (J i).k (J i).v (J i).m one) V' M' ∧ apR (J i).kd (J i).k (J i).v (J i).m one = j'.rs := by
  have hj := hc.ri.job i hi
  obtain ⟨e1, e2, e3⟩ := (hm.ef.1 h7).1 h0
  have hv := hc.ri.v _ hj.k
  have hlt := ended_lt J (i := i) (by omega) n hi
  have hjv := hj.v
  have hM := hc.ri.m _ hj.k
  have hfew := fewP h.ok h.ks
  have h3 : abc.length = 3 := rfl
  obtain ⟨a1, a2⟩ := h.at' _ hj.k
  obtain ⟨q1, q2⟩ := ap_map (kd := (J i).kd) (key := (J i).k) (val := (J i).v) (m := (J i).m) (ps := one) (n := M (J i).k) h.ok (hc.cmd i hi) hj.ok.kd (fun e => by have := hj.ok.k1; rw [e] at this; simp at this) (.inl (by omega)) a2 (by omega) (by rw [a1]; omega)
  rw [a1] at q1 q2
  refine ⟨⟨q1.ok, fun k hk => ?_, fun p hp => ?_⟩, by rw [q2, e3]⟩
  · by_cases e : k = (J i).k
    · rw [e, q1.v, q1.n, e1, e2]
      exact ⟨rfl, rfl⟩
    · obtain ⟨o1, o2⟩ := q1.oth k e
      obtain ⟨p1, p2⟩ := hm.oth k e
      rw [o1, o2, p1, p2]
      exact h.at' k hk
  · rcases q1.mem p hp with e | ⟨q, hq, e⟩
    · rw [e]; exact hj.k
    · rw [← e]; exact h.ks q hq
theorem OneI.same {one : List Pr} {j j' : Jb} (h : OneI one V M) {V' : List UInt8 → List UInt8} {M' : List UInt8 → Nat} (hm : MadeC j j' V V' M M') (h7 : j'.ph ≠ 7 ∨ 0 < j.tg) : OneI one V' M' := by
  have e : V' j.k = V j.k ∧ M' j.k = M j.k := by
    by_cases c : j'.ph = 7
    · have := (hm.ef.1 c).2 (h7.resolve_left (fun x => x c))
      exact ⟨this.1, this.2.1⟩
    · exact hm.ef.2 c
  refine ⟨h.ok, fun k hk => ?_, h.ks⟩
  by_cases ek : k = j.k
  · rw [ek, e.1, e.2, ← ek]
    exact h.at' k hk
  · rw [(hm.oth k ek).1, (hm.oth k ek).2]
    exact h.at' k hk
theorem SM_zero (g : Nat) (k : List UInt8) : (SM [[], [], []] g).n k = 0 := by
  have e : SM [[], [], []] g = St.of [] := by
    unfold SM
    rcases (show g = 0 ∨ g = 1 ∨ g = 2 ∨ g = 3 ∨ 4 ≤ g by omega) with e | e | e | e | e
    · rw [e]; rfl
    · rw [e]; rfl
    · rw [e]; rfl
    · rw [e]; rfl
    · rw [if_neg (by omega), List.getElem?_eq_none (by simp; omega)]; rfl
  rw [e]
  rfl
theorem CR.first (hJ : ∀ i, i < n → JbL (J i)) (hN : ∀ i, i < n → ∃ kd k v m tg at', J i = Jb.new kd k v m tg at' ∧ 1 ≤ at' ∧ at' ≤ 3 ∧ tg ≤ 3) (hc : ∀ i, i < n → isCmd (J i).kd (J i).k (J i).v (J i).m = true) : CR [[], [], []] J n (fun _ => []) (fun _ => 0) 0 := by
  refine ⟨RI.first (fun g k => SM_zero g k) hJ hN, rfl, fun ps hp => ?_, fun ps hp p hpp => ?_, hc⟩
  · simp only [List.mem_cons, List.not_mem_nil, or_false, or_self] at hp
    rw [hp]; rfl
  · simp only [List.mem_cons, List.not_mem_nil, or_false, or_self] at hp
    rw [hp] at hpp
    cases hpp
end Go.Proofs.YtflnjlbafchnaaaGreatDoor
