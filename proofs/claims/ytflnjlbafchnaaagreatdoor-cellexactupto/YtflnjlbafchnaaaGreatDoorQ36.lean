/-
  Joined: WCxA, WCxB.
-/
import Derived.Test.YtflnjlbafchnaaaGreatDoorQ35
import Derived.Deep.DeepCutAuto
import Derived.Deep.RegionHeld3
import Derived.StillTailTactics
/-
  Cells: the document's reads.
-/
namespace Go.Proofs.YtflnjlbafchnaaaGreatDoor
open Go.RowKit

set_option maxRecDepth 100000 in
set_option maxHeartbeats 4000000 in
theorem jrT4 (w X : World) (b D : Nat) (j u : Jb) (K : Jk)
    (HJ : Hid (JdAt X b j K)) (HD : Hid (CcAt X D j.sn.s j.sn.h j.sn.g j.sn.n j.sn.v)) (HK : Hid (Kept (One b) w X))
    (HC : Hid (CmOk j.kd j.k j.v j.m j.sn.v j.sn.n)) (HO : Hid (j.sn.Ok ∧ j.sn.h ≤ 999999 ∧ j.tg ≤ 4)) (Hp : Hid (j.ph = 0)) (Hu : Hid (u = j.seen)) (fv1 fv2 fv3 fv5 fv6 fv7 fv8 fv9 fv10 fv11 fv12 fv13 fv14 fv15 fv16 fv17 fv18 fv19 fv20 fv21 fv22 fv23 fv24 fv25 fv26 fv27 fv28 fv29 fv30 fv31 fv32 fv33 fv34 fv35 fv36 fv37 fv38 fv39 fv40 fv41 fv42 fv43 fv44 fv45 fv46 fv47 fv48 fv49 fv50 fv51 fv52 fv53 fv54 fv55 fv56 fv57 fv58 fv59 fv60 fv61 fv62 fv63 fv64 fv65 fv66 fv67 fv68 fv69 fv70 fv71 fv72 fv73 fv74 fv75 fv76 fv77 fv78 fv79 fv80 fv81 fv82 fv83 fv84 fv85 fv86 fv87 fv88 fv89 fv90 fv91 fv92 fv93 fv94 fv95 fv96 fv97 fv98 fv99 fv100 fv101 fv102 fv103 fv104 fv105 fv106 fv107 fv108 fv109 fv110 fv111 fv112 fv113 fv114 fv115 fv116 fv117 fv118 fv119 fv120 fv121 fv122 fv123 fv124 fv125 fv126 fv127 fv128 fv129 fv130 fv131 fv132 fv133 fv134 fv135 fv136 fv137 fv138 fv139 fv140 fv141 fv142 fv143 fv144 fv145 fv146 fv147 fv148 fv149 fv150 fv151 fv152 fv153 fv154 fv155 fv156 fv157 fv158 : Value) :
    Code.wp Tryz.prog jT4 (bodyPost Tryz.prog Tryz.f92 (JdPost w b u)) ⟨#[.pointer (some ⟨b, 0, none⟩), fv1, fv2, fv3, .pointer (some ⟨D, 0, none⟩), fv5, fv6, fv7, fv8, fv9, fv10, fv11, fv12, fv13, fv14, fv15, fv16, fv17, fv18, fv19, fv20, fv21, fv22, fv23, fv24, fv25, fv26, fv27, fv28, fv29, fv30, fv31, fv32, fv33, fv34, fv35, fv36, fv37, fv38, fv39, fv40, fv41, fv42, fv43, fv44, fv45, fv46, fv47, fv48, fv49, fv50, fv51, fv52, fv53, fv54, fv55, fv56, fv57, fv58, fv59, fv60, fv61, fv62, fv63, fv64, fv65, fv66, fv67, fv68, fv69, fv70, fv71, fv72, fv73, fv74, fv75, fv76, fv77, fv78, fv79, fv80, fv81, fv82, fv83, fv84, fv85, fv86, fv87, fv88, fv89, fv90, fv91, fv92, fv93, fv94, fv95, fv96, fv97, fv98, fv99, fv100, fv101, fv102, fv103, fv104, fv105, fv106, fv107, fv108, fv109, fv110, fv111, fv112, fv113, fv114, fv115, fv116, fv117, fv118, fv119, fv120, fv121, fv122, fv123, fv124, fv125, fv126, fv127, fv128, fv129, fv130, fv131, fv132, fv133, fv134, fv135, fv136, fv137, fv138, fv139, fv140, fv141, fv142, fv143, fv144, fv145, fv146, fv147, fv148, fv149, fv150, fv151, fv152, fv153, fv154, fv155, fv156, fv157, fv158], []⟩ X := by
  conv => arg 2; whnf
  dsimp only
  have hbD : b ≠ D := fun e => by have h1 := HJ.out; have h2 := HD.out; unfold JdAt at h1; unfold CcAt at h2; rw [e, h2] at h1; simp at h1
  have hDb := Ne.symm hbD
  have d0 : X.cell? ⟨D, 0, none⟩ = some (.int .i64 j.sn.s) := blk_at HD.out 0 rfl
  have d1 : X.cell? ⟨D, 1, none⟩ = some (.int .i64 j.sn.h) := blk_at HD.out 1 rfl
  have d2 : X.cell? ⟨D, 2, none⟩ = some (.int .i64 j.sn.g) := blk_at HD.out 2 rfl
  have d3 : X.cell? ⟨D, 3, none⟩ = some (.int .i64 j.sn.n) := blk_at HD.out 3 rfl
  have d4 : X.cell? ⟨D, 4, none⟩ = some (.string (bs j.sn.v)) := blk_at HD.out 4 rfl
  have q0 : X.cell? ⟨b, 0, none⟩ = some (.int .i64 j.at') := blk_at HJ.out 0 rfl
  have q1 : X.cell? ⟨b, 1, none⟩ = some (.int .i64 j.tg) := blk_at HJ.out 1 rfl
  have q6 : X.cell? ⟨b, 6, none⟩ = some (.int .i64 ((j.ph : Int) + 1)) := blk_at HJ.out 6 rfl
  have q12 : X.cell? ⟨b, 12, none⟩ = some (.int .i64 j.nx.s) := blk_at HJ.out 12 rfl
  have q13 : X.cell? ⟨b, 13, none⟩ = some (.int .i64 j.nx.h) := blk_at HJ.out 13 rfl
  have q14 : X.cell? ⟨b, 14, none⟩ = some (.int .i64 j.nx.g) := blk_at HJ.out 14 rfl
  have q15 : X.cell? ⟨b, 15, none⟩ = some (.int .i64 j.nx.n) := blk_at HJ.out 15 rfl
  have q16 : X.cell? ⟨b, 16, none⟩ = some (.string (bs j.nx.v)) := blk_at HJ.out 16 rfl
  have f0 : X.frozen? ⟨b, 0, none⟩ = false := blk_free HJ.out 0
  have f6 : X.frozen? ⟨b, 6, none⟩ = false := blk_free HJ.out 6
  have f12 : X.frozen? ⟨b, 12, none⟩ = false := blk_free HJ.out 12
  have f13 : X.frozen? ⟨b, 13, none⟩ = false := blk_free HJ.out 13
  have f14 : X.frozen? ⟨b, 14, none⟩ = false := blk_free HJ.out 14
  have f15 : X.frozen? ⟨b, 15, none⟩ = false := blk_free HJ.out 15
  have f16 : X.frozen? ⟨b, 16, none⟩ = false := blk_free HJ.out 16
  by_cases s1 : j.sn.s = 1
  · have e1 : ((j.sn.s : Int) == 1) = true := by simp; omega
    have HU2 : Hid (u = { j with ph := 4 }) := by show _ = _; rw [Hu.out]; unfold Jb.seen; rw [if_neg (by omega), if_pos s1]
    obtain ⟨Y, hY⟩ : ∃ Y, Y = (X.setCell ⟨b, 6, none⟩ (.int .i64 5)) := ⟨_, rfl⟩
    have HY : Hid ((∃ K, JdAt Y b u K) ∧ Kept (One b) w Y) := by rw [hY, HU2.out]; exact ⟨⟨_, HJ.out.s6 4⟩, (HK.out.setCell (p := ⟨b, 6, none⟩) (fun _ => rfl) _)⟩
    clear HU2 s1
    go_wp2
    rw [← hY]
    go_end0
    exact ⟨rfl, HY.out⟩
  · have e1 : ((j.sn.s : Int) == 1) = false := by simp; omega
    by_cases s2 : j.sn.s = 2
    · have e2 : ((j.sn.s : Int) == 2) = true := by simp; omega
      have HU2 : Hid (u = j.follow) := by show _ = _; rw [Hu.out]; unfold Jb.seen; rw [if_pos s2]
      obtain ⟨Y, hY⟩ : ∃ Y, Y = (X.setCell ⟨b, 0, none⟩ (.int .i64 j.sn.g)) := ⟨_, rfl⟩
      have HY : Hid ((∃ K, JdAt Y b u K) ∧ Kept (One b) w Y) := by rw [hY, HU2.out]; exact ⟨⟨_, (by have h := HJ.out.s0 j.sn.g; have e : j.follow = { j with at' := j.sn.g } := (by unfold Jb.follow; rw [← Hp.out]); rw [e]; exact h)⟩, (HK.out.setCell (p := ⟨b, 0, none⟩) (fun _ => rfl) _)⟩
      clear HU2 s1 s2
      go_wp2
      rw [← hY]
      go_end0
      exact ⟨rfl, HY.out⟩
    · have e2 : ((j.sn.s : Int) == 2) = false := by simp; omega
      by_cases tp : 0 < j.tg
      · have e3 : (0 : Int) < j.tg := by omega
        have Hu1 : Hid (u = j.handOver) := by show _ = _; rw [Hu.out]; unfold Jb.seen; rw [if_neg s2, if_neg s1, if_pos tp]
        clear Hu s1 s2 tp
        go_upto_region 9 with fail
        by_cases ta : j.tg = j.at'
        · have e4 : ((j.tg : Int) == (j.at' : Int)) = true := by simp; omega
          have hu : u = j.finK 1 := by rw [Hu1.out]; exact if_pos ta
          have EN : Calls Tryz.prog 94 #[.pointer (some ⟨b, 0, none⟩), .agg #[.int .i64 1, .string ⟨#[]⟩, .int .i64 0, .slice none 0 0]] X.drew (JdPost X.drew b (j.finK 1)) := jends_any X.drew b j K HJ.out.drew ⟨1, [], 0, []⟩ none 0
          rw [← hu] at EN
          clear hu ta
          go_region
          all_goals
            go_wp2_with fail
            go_fit EN
            rintro _ w1 ⟨rfl, h1, k1⟩
            have HY : Hid ((∃ K, JdAt w1 b u K) ∧ Kept (One b) w w1) := ⟨h1, HK.out.drew.trans k1⟩
            clear h1 k1
            go_wp2
            go_end0
            exact ⟨rfl, HY.out⟩
        · have e4 : ((j.tg : Int) == (j.at' : Int)) = false := by simp; omega
          have HJd : Hid (JdAt X.drew b j K) := HJ.out.drew
          have HDd : Hid (CcAt X.drew D j.sn.s j.sn.h j.sn.g j.sn.n j.sn.v) := HD.out
          by_cases hm : j.sn.h = 999999
          · have e5 : ((j.sn.h : Int) == 999999) = true := by simp; omega
            have hu : u = j.finK 4 := by rw [Hu1.out]; unfold Jb.handOver; rw [if_neg ta, if_pos hm]
            have EN : Calls Tryz.prog 94 #[.pointer (some ⟨b, 0, none⟩), .agg #[.int .i64 4, .string ⟨#[]⟩, .int .i64 0, .slice none 0 0]] X.drew (JdPost X.drew b (j.finK 4)) := jends_any X.drew b j K HJ.out.drew ⟨4, [], 0, []⟩ none 0
            rw [← hu] at EN
            clear hu ta hm
            go_region
            all_goals
              go_wp2_with fail
              go_fit EN
              rintro _ w1 ⟨rfl, h1, k1⟩
              have HY : Hid ((∃ K, JdAt w1 b u K) ∧ Kept (One b) w w1) := ⟨h1, HK.out.drew.trans k1⟩
              clear h1 k1
              go_wp2
              go_end0
              exact ⟨rfl, HY.out⟩
          · have e5 : ((j.sn.h : Int) == 999999) = false := by simp; omega
            have HU2 : Hid (u = { j with nx := j.sn.towards j.tg, ph := 2 }) := by show _ = _; rw [Hu1.out]; unfold Jb.handOver; rw [if_neg ta, if_neg hm]
            have hwr : IntKind.i64.wrap ((j.sn.h : Int) + 1) = (j.sn.h : Int) + 1 := by have := HO.out.2.1; rw [IntKind.wrap_i64]; omega
            clear ta hm
            go_region
            all_goals
              go_upto_region 13 with fail
              go_region
              all_goals
                go_upto_region 14 with fail
                obtain ⟨Z, hZ⟩ : ∃ Z, Z = (((((X.setCell ⟨b, 12, none⟩ (.int .i64 1)).setCell ⟨b, 13, none⟩ (.int .i64 ((j.sn.h : Int) + 1))).setCell ⟨b, 14, none⟩ (.int .i64 j.tg)).setCell ⟨b, 15, none⟩ (.int .i64 j.sn.n)).setCell ⟨b, 16, none⟩ (.string (bs j.sn.v))).drew.drew := ⟨_, rfl⟩
                have HZ : Hid (JdAt Z b { j with nx := j.sn.towards j.tg } K ∧ Kept (One b) w Z) := by rw [hZ]; exact ⟨((HJ.out.nx5 (j.sn.towards j.tg)).drew).drew, (((((HK.out.setCell (p := ⟨b, 12, none⟩) (fun _ => rfl) _).setCell (p := ⟨b, 13, none⟩) (fun _ => rfl) _).setCell (p := ⟨b, 14, none⟩) (fun _ => rfl) _).setCell (p := ⟨b, 15, none⟩) (fun _ => rfl) _).setCell (p := ⟨b, 16, none⟩) (fun _ => rfl) _).drew.drew⟩
                rw [← hZ]
                clear hZ
                have z6 : Z.cell? ⟨b, 6, none⟩ = some (.int .i64 ((j.ph : Int) + 1)) := blk_at HZ.out.1 6 rfl
                have zf6 : Z.frozen? ⟨b, 6, none⟩ = false := blk_free HZ.out.1 6
                obtain ⟨Y, hY⟩ : ∃ Y, Y = Z.setCell ⟨b, 6, none⟩ (.int .i64 3) := ⟨_, rfl⟩
                have HY : Hid ((∃ K, JdAt Y b u K) ∧ Kept (One b) w Y) := by rw [hY, HU2.out]; exact ⟨⟨_, HZ.out.1.s6 2⟩, HZ.out.2.setCell (p := ⟨b, 6, none⟩) (fun _ => rfl) _⟩
                go_wp2
                rw [← hY]
                go_end0
                exact ⟨rfl, HY.out⟩
      · have e3 : ¬ (0 : Int) < j.tg := by omega
        have Hu1 : Hid (u = j.apply) := by show _ = _; rw [Hu.out]; unfold Jb.seen; rw [if_neg s2, if_neg s1, if_neg tp]
        clear Hu s1 s2 tp
        go_upto_region 16 with fail
        go_upto_if 84 with fail
        go_cut [6] from 45 to 95 (fun v wc => ∃ lo lc, v = .slice lo (onePr j.k j.sn.v j.sn.n).length lc ∧ Hid (JdAt wc b j K ∧ CcAt wc D j.sn.s j.sn.h j.sn.g j.sn.n j.sn.v ∧ Kept (One b) w wc ∧ PairRow wc.heap.size wc lo (onePr j.k j.sn.v j.sn.n)))
        case first =>
          by_cases n0 : j.sn.n = 0
          · have e6 : ¬ (0 : Int) < j.sn.n := by omega
            have HF : Hid (JdAt X b j K ∧ CcAt X D j.sn.s j.sn.h j.sn.g j.sn.n j.sn.v ∧ Kept (One b) w X ∧ PairRow X.heap.size X none (onePr j.k j.sn.v j.sn.n)) := ⟨HJ.out, HD.out, HK.out, by rw [n0, HO.out.1.vn n0, one_zero]; intro i hi; simp at hi⟩
            have hz : (onePr j.k j.sn.v j.sn.n).length = 0 := by rw [n0, HO.out.1.vn n0, one_zero]; rfl
            clear n0
            go_wp2
            go_meet
            exact ⟨none, 0, by rw [hz], HF.out⟩
          · have e6 : (0 : Int) < j.sn.n := by omega
            clear n0
            have q3 : X.cell? ⟨b, 3, none⟩ = some (.string (bs j.k)) := blk_at HJ.out 3 rfl
            go_upto_region 17 with fail
            go_region
            all_goals
              go_wp2_with fail
              go_meet
              have e1 : onePr j.k j.sn.v j.sn.n = [⟨j.k, j.sn.v, j.sn.n⟩] := one_pos _ _ (by omega)
              refine ⟨some ⟨X.heap.size, 0, none⟩, 1, by rw [e1]; rfl, ?_⟩
              have kx : Kept Nil X (X.alloc (.cells #[.string (bs j.k), .string (bs j.sn.v), .int .i64 j.sn.n] 63)).drew := ((Kept.refl _ _).alloc _).drew
              refine ⟨HJ.out.kept kx, kx.block _ _ HD.out (fun x => x), HK.out.trans (kept_oneN kx), ?_⟩
              rw [e1]
              intro i hi
              obtain rfl : i = 0 := by simpa using hi
              have hb : (X.alloc (.cells #[.string (bs j.k), .string (bs j.sn.v), .int .i64 j.sn.n] 63)).drew.heap[X.heap.size]? = some (.cells #[.string (bs j.k), .string (bs j.sn.v), .int .i64 j.sn.n] 63 (0, 0)) := blk_new X _
              have l1 := HC.out.ok2
              have l2 := HC.out.ov
              exact ⟨⟨X.heap.size, 0, none⟩, rfl, lt_of_block hb, blk_at hb 0 rfl, blk_at hb 1 rfl, blk_at hb 2 rfl, by show j.k.length ≤ maxLen; unfold maxLen; omega, by show j.sn.v.length ≤ maxLen; unfold maxLen; omega⟩
        case rest =>
          obtain ⟨lo, lc, rfl, h⟩ := hcut
          rename World => w9
          obtain ⟨ps, Hps⟩ : ∃ ps, Hid (ps = onePr j.k j.sn.v j.sn.n) := ⟨_, rfl⟩
          rw [← Hps.out] at h ⊢
          have H1 : Hid (JdAt w9 b j K) := h.out.1
          have H2 : Hid (CcAt w9 D j.sn.s j.sn.h j.sn.g j.sn.n j.sn.v) := h.out.2.1
          have H3 : Hid (Kept (One b) w w9) := h.out.2.2.1
          have H4 : Hid (PairRow w9.heap.size w9 lo ps) := h.out.2.2.2
          clear h
          apply_assumption
          exact jrT18 w w9 b D lc lo ps j u K H1 H2 H4 Hps H3 HC Hu1 _ _ _ _ _ _ _ _ _ _ _ _ _ _ _ _ _ _ _ _ _ _ _ _ _ _ _ _ _ _ _ _ _ _ _ _ _ _ _ _ _ _ _ _ _ _ _ _ _ _ _ _ _ _ _ _ _ _ _ _ _ _ _ _ _ _ _ _ _ _ _ _ _ _ _ _ _ _ _ _ _ _ _ _ _ _ _ _ _ _ _ _ _ _ _ _ _ _ _ _ _ _ _ _ _ _ _ _ _ _ _ _ _ _ _ _ _ _ _ _ _ _ _ _ _ _ _ _ _ _ _ _ _ _ _ _ _ _ _ _ _ _ _ _ _ _ _ _ _ _ _ _ _ _ _ _
end Go.Proofs.YtflnjlbafchnaaaGreatDoor

/-
  Cells: the document's reads, whole; Take, whole.
-/
namespace Go.Proofs.YtflnjlbafchnaaaGreatDoor
open Go.RowKit

set_option maxRecDepth 100000 in
set_option maxHeartbeats 4000000 in
theorem jreads_any (w : World) (b : Nat) (j : Jb) (K : Jk) (h : JdAt w b j K) (hp : j.ph = 0) (r : Rr) (ko : Option Addr) (kc : Nat) (hl : (r.v.length : Int) ≤ 4611686018427387904) (hC : ∀ c : Ce, c.Ok → CmOk j.kd j.k j.v j.m c.v c.n) (ht : j.tg ≤ 4) :
    Calls Tryz.prog 92 #[.pointer (some ⟨b, 0, none⟩), rrV r ko kc] w (JdPost w b ({ j with sn := sawC j.at' r, sv := versR r } : Jb).seen) := by
  obtain ⟨W, hW⟩ : ∃ W, W = w.alloc (.cells #[.int .i64 r.kd, .string (bs r.v), .int .i64 r.n, .slice ko r.ks.length kc] 50) := ⟨_, rfl⟩
  obtain ⟨A, HAe⟩ : ∃ A, Hid (A = w.heap.size) := ⟨_, rfl⟩
  have KW : Hid (Kept Nil w W) := by rw [hW]; exact (Kept.refl _ _).alloc _
  have HA : Hid (W.heap[A]? = some (.cells #[.int .i64 r.kd, .string (bs r.v), .int .i64 r.n, .slice ko r.ks.length kc] 50 (0, 0))) := by rw [hW, HAe.out]; exact blk_new _ _
  have HJ : Hid (JdAt W b j K) := h.kept KW.out
  have hlb : b < W.heap.size := lt_of_block HJ.out
  have hlA : A < W.heap.size := lt_of_block HA.out
  have hbA : b ≠ A := by rw [HAe.out]; have := lt_of_block h; omega
  have hAb : A ≠ b := fun e => hbA e.symm
  have a0 : W.cell? ⟨A, 0, none⟩ = some (.int .i64 r.kd) := blk_at HA.out 0 rfl
  have a1 : W.cell? ⟨A, 1, none⟩ = some (.string (bs r.v)) := blk_at HA.out 1 rfl
  have a2 : W.cell? ⟨A, 2, none⟩ = some (.int .i64 r.n) := blk_at HA.out 2 rfl
  have a3 : W.cell? ⟨A, 3, none⟩ = some (.slice ko r.ks.length kc) := blk_at HA.out 3 rfl
  have q0 : W.cell? ⟨b, 0, none⟩ = some (.int .i64 j.at') := blk_at HJ.out 0 rfl
  obtain ⟨c, Hc⟩ : ∃ c, Hid (c = sawC j.at' r) := ⟨_, rfl⟩
  obtain ⟨vv, Hv⟩ : ∃ v, Hid (v = versR r) := ⟨_, rfl⟩
  rw [← Hc.out, ← Hv.out]
  obtain ⟨u, Hu⟩ : ∃ u, Hid (u = ({ j with sn := c, sv := vv } : Jb).seen) := ⟨_, rfl⟩
  rw [← Hu.out]
  have HO : Hid (c.Ok) := by show c.Ok; rw [Hc.out]; exact sawC_ok _ _
  have HC : Hid (CmOk j.kd j.k j.v j.m c.v c.n) := hC c HO.out
  have HO4 : Hid (c.Ok ∧ c.h ≤ 999999 ∧ j.tg ≤ 4) := ⟨HO.out, HO.out.h, ht⟩
  have Hp : Hid (j.ph = 0) := hp
  have SC : ∀ Y, Calls Tryz.prog 95 #[.int .i64 j.at', .agg #[.int .i64 r.kd, .string (bs r.v), .int .i64 r.n, .slice ko r.ks.length kc]] Y fun e w' => e = .returned (.tuple #[.agg #[.int .i64 c.s, .int .i64 c.h, .int .i64 c.g, .int .i64 c.n, .string (bs c.v)], .int .i64 vv]) ∧ Kept Nil Y w' := fun Y => by
    rw [Hc.out, Hv.out]
    exact refSeenCell_any j.at' r ko kc hl Y
  clear h hp Hc Hv hl hC ht
  unfold rrV
  go_enter Tryz.func92, Tryz.ntmps92
  go_upto_region 1 with fail
  rw [← hW, ← HAe.out]
  clear hW
  have SS : ∀ X, Kept Nil W X → (X.cell? ⟨b, 0, none⟩ = some (.int .i64 j.at') ∧ X.cell? ⟨A, 0, none⟩ = some (.int .i64 r.kd) ∧ X.cell? ⟨A, 1, none⟩ = some (.string (bs r.v)) ∧ X.cell? ⟨A, 2, none⟩ = some (.int .i64 r.n) ∧ X.cell? ⟨A, 3, none⟩ = some (.slice ko r.ks.length kc)) := fun X kX =>
    ⟨blk_at (HJ.out.kept kX) 0 rfl, blk_at (kX.block _ _ HA.out (fun x => x.elim)) 0 rfl, blk_at (kX.block _ _ HA.out (fun x => x.elim)) 1 rfl, blk_at (kX.block _ _ HA.out (fun x => x.elim)) 2 rfl, blk_at (kX.block _ _ HA.out (fun x => x.elim)) 3 rfl⟩
  have SG : ∀ X, Kept (fun q _ => W.heap.size ≤ q) W X → (X.cell? ⟨b, 0, none⟩ = some (.int .i64 j.at') ∧ X.cell? ⟨A, 0, none⟩ = some (.int .i64 r.kd) ∧ X.cell? ⟨A, 1, none⟩ = some (.string (bs r.v)) ∧ X.cell? ⟨A, 2, none⟩ = some (.int .i64 r.n) ∧ X.cell? ⟨A, 3, none⟩ = some (.slice ko r.ks.length kc)) := fun X kX =>
    ⟨blk_at (kX.block _ _ HJ.out (fun x => absurd (show W.heap.size ≤ b from x) (by omega))) 0 rfl, blk_at (kX.block _ _ HA.out (fun x => absurd (show W.heap.size ≤ A from x) (by omega))) 0 rfl, blk_at (kX.block _ _ HA.out (fun x => absurd (show W.heap.size ≤ A from x) (by omega))) 1 rfl, blk_at (kX.block _ _ HA.out (fun x => absurd (show W.heap.size ≤ A from x) (by omega))) 2 rfl, blk_at (kX.block _ _ HA.out (fun x => absurd (show W.heap.size ≤ A from x) (by omega))) 3 rfl⟩
  go_region_held3 (fun w' => w'.cell? ⟨b, 0, none⟩ = some (.int .i64 j.at') ∧ w'.cell? ⟨A, 0, none⟩ = some (.int .i64 r.kd) ∧ w'.cell? ⟨A, 1, none⟩ = some (.string (bs r.v)) ∧ w'.cell? ⟨A, 2, none⟩ = some (.int .i64 r.n) ∧ w'.cell? ⟨A, 3, none⟩ = some (.slice ko r.ks.length kc)) (first | (with_reducible assumption) | (refine SG _ ?_; repeat (first | (with_reducible exact KaG.out) | (with_reducible exact Kept.refl _ _) | (with_reducible refine Kept.drew ?_) | (with_reducible refine Kept.alloc ?_ _) | (with_reducible refine Kept.setCell ?_ (fun _ => ?_) _) | (first | exact Nat.le_refl _ | exact hsz)))) (first | (go_at_call 95; go_must (go_fit (SC _)); rintro _ wa ⟨rfl, ka⟩; have Ka : Hid (Kept Nil W wa) := Kept.trans (by repeat (first | exact Kept.refl _ _ | refine Kept.drew ?_ | refine Kept.alloc ?_ _)) ka; have sa := SS wa Ka.out; have hsz : W.heap.size ≤ wa.heap.size := Ka.out.size; have KaG : Hid (Kept (fun q _ => W.heap.size ≤ q) W wa) := Ka.out.mono (fun _ _ x => x.elim); (try (have P0 : Hid (wa.heap[W.heap.size]? = some (.cells #[.int .i64 0, .int .i64 0, .int .i64 0, .int .i64 0, .string ⟨#[]⟩] 140 (0, 0))) := ka.block _ _ (by first | exact blk_new W _ | exact blk_new W.drew _) (fun x => x); have P0c0 : wa.cell? ⟨W.heap.size, 0, none⟩ = some (.int .i64 0) := blk_at P0.out 0 rfl; have P0f0 := blk_free P0.out 0; have P0c1 : wa.cell? ⟨W.heap.size, 1, none⟩ = some (.int .i64 0) := blk_at P0.out 1 rfl; have P0f1 := blk_free P0.out 1; have P0c2 : wa.cell? ⟨W.heap.size, 2, none⟩ = some (.int .i64 0) := blk_at P0.out 2 rfl; have P0f2 := blk_free P0.out 2; have P0c3 : wa.cell? ⟨W.heap.size, 3, none⟩ = some (.int .i64 0) := blk_at P0.out 3 rfl; have P0f3 := blk_free P0.out 3; have P0c4 : wa.cell? ⟨W.heap.size, 4, none⟩ = some (.string ⟨#[]⟩) := blk_at P0.out 4 rfl; have P0f4 := blk_free P0.out 4; have P0l : W.heap.size < wa.heap.size := lt_of_block P0.out; have P0b : b ≠ W.heap.size := Nat.ne_of_lt hlb; have P0d : W.heap.size ≠ b := Nat.ne_of_gt hlb; have P0a : A ≠ W.heap.size := Nat.ne_of_lt hlA; have P0e : W.heap.size ≠ A := Nat.ne_of_gt hlA)); clear ka))
  · obtain ⟨X, hX⟩ : ∃ X, X = wa.alloc (.cells #[.int .i64 c.s, .int .i64 c.h, .int .i64 c.g, .int .i64 c.n, .string (bs c.v)] 140) := ⟨_, rfl⟩
    obtain ⟨D, hD⟩ : ∃ D, Hid (D = wa.heap.size) := ⟨_, rfl⟩
    have HX : Hid (CcAt X D c.s c.h c.g c.n c.v ∧ JdAt X b j K ∧ Kept (One b) w X ∧ b ≠ D) := by
      rw [hX, hD.out]
      exact ⟨blk_new _ _, (HJ.out.kept (Ka.out.alloc _)), kept_oneN (KW.out.trans (Ka.out.alloc _)), by omega⟩
    rw [← hX, ← hD.out]
    clear hX
    have HJX : Hid (JdAt X b j K) := HX.out.2.1
    have HDX : Hid (CcAt X D c.s c.h c.g c.n c.v) := HX.out.1
    have hbD : b ≠ D := HX.out.2.2.2
    have hDb : D ≠ b := fun e => hbD e.symm
    clear q0 a0 a1 a2 a3 sa
    have d0 : X.cell? ⟨D, 0, none⟩ = some (.int .i64 c.s) := blk_at HDX.out 0 rfl
    have d1 : X.cell? ⟨D, 1, none⟩ = some (.int .i64 c.h) := blk_at HDX.out 1 rfl
    have d2 : X.cell? ⟨D, 2, none⟩ = some (.int .i64 c.g) := blk_at HDX.out 2 rfl
    have d3 : X.cell? ⟨D, 3, none⟩ = some (.int .i64 c.n) := blk_at HDX.out 3 rfl
    have d4 : X.cell? ⟨D, 4, none⟩ = some (.string (bs c.v)) := blk_at HDX.out 4 rfl
    have q7 : X.cell? ⟨b, 7, none⟩ = some (.int .i64 j.sn.s) := blk_at HJX.out 7 rfl
    have q8 : X.cell? ⟨b, 8, none⟩ = some (.int .i64 j.sn.h) := blk_at HJX.out 8 rfl
    have q9 : X.cell? ⟨b, 9, none⟩ = some (.int .i64 j.sn.g) := blk_at HJX.out 9 rfl
    have q10 : X.cell? ⟨b, 10, none⟩ = some (.int .i64 j.sn.n) := blk_at HJX.out 10 rfl
    have q11 : X.cell? ⟨b, 11, none⟩ = some (.string (bs j.sn.v)) := blk_at HJX.out 11 rfl
    have q17 : X.cell? ⟨b, 17, none⟩ = some (.int .i64 j.sv) := blk_at HJX.out 17 rfl
    have f7 : X.frozen? ⟨b, 7, none⟩ = false := blk_free HJX.out 7
    have f8 : X.frozen? ⟨b, 8, none⟩ = false := blk_free HJX.out 8
    have f9 : X.frozen? ⟨b, 9, none⟩ = false := blk_free HJX.out 9
    have f10 : X.frozen? ⟨b, 10, none⟩ = false := blk_free HJX.out 10
    have f11 : X.frozen? ⟨b, 11, none⟩ = false := blk_free HJX.out 11
    have f17 : X.frozen? ⟨b, 17, none⟩ = false := blk_free HJX.out 17
    obtain ⟨Z, hZ⟩ : ∃ Z, Z = ((((((X.setCell ⟨b, 7, none⟩ (.int .i64 c.s)).setCell ⟨b, 8, none⟩ (.int .i64 c.h)).setCell ⟨b, 9, none⟩ (.int .i64 c.g)).setCell ⟨b, 10, none⟩ (.int .i64 c.n)).setCell ⟨b, 11, none⟩ (.string (bs c.v))).setCell ⟨b, 17, none⟩ (.int .i64 vv)) := ⟨_, rfl⟩
    have HZ : Hid (JdAt Z b { j with sn := c, sv := vv } K ∧ CcAt Z D c.s c.h c.g c.n c.v ∧ Kept (One b) w Z) := by rw [hZ]; exact ⟨(HJX.out.sn5 c).s17 vv, (CcAt.off (CcAt.off (CcAt.off (CcAt.off (CcAt.off (CcAt.off HDX.out hbD 7 _) hbD 8 _) hbD 9 _) hbD 10 _) hbD 11 _) hbD 17 _), ((((((HX.out.2.2.1.setCell (p := ⟨b, 7, none⟩) (fun _ => rfl) _).setCell (p := ⟨b, 8, none⟩) (fun _ => rfl) _).setCell (p := ⟨b, 9, none⟩) (fun _ => rfl) _).setCell (p := ⟨b, 10, none⟩) (fun _ => rfl) _).setCell (p := ⟨b, 11, none⟩) (fun _ => rfl) _).setCell (p := ⟨b, 17, none⟩) (fun _ => rfl) _)⟩
    go_upto_region 3 with fail
    go_cut [] from 23 to 26 (fun wc => wc = Z)
    case first =>
      go_wp2
      rw [← hZ]
      go_meet
      exact rfl
    case rest =>
      rename World => w9
      have e9 : w9 = Z := hcut
      clear hcut hZ d0 d1 d2 d3 d4 q7 q8 q9 q10 q11 q17 f7 f8 f9 f10 f11 f17
      rw [e9]
      have H1 : Hid (JdAt Z b { j with sn := c, sv := vv } K) := HZ.out.1
      have H2 : Hid (CcAt Z D c.s c.h c.g c.n c.v) := HZ.out.2.1
      have H3 : Hid (Kept (One b) w Z) := HZ.out.2.2
      apply_assumption
      exact jrT4 w Z b D { j with sn := c, sv := vv } u K H1 H2 H3 HC HO4 Hp Hu _ _ _ _ _ _ _ _ _ _ _ _ _ _ _ _ _ _ _ _ _ _ _ _ _ _ _ _ _ _ _ _ _ _ _ _ _ _ _ _ _ _ _ _ _ _ _ _ _ _ _ _ _ _ _ _ _ _ _ _ _ _ _ _ _ _ _ _ _ _ _ _ _ _ _ _ _ _ _ _ _ _ _ _ _ _ _ _ _ _ _ _ _ _ _ _ _ _ _ _ _ _ _ _ _ _ _ _ _ _ _ _ _ _ _ _ _ _ _ _ _ _ _ _ _ _ _ _ _ _ _ _ _ _ _ _ _ _ _ _ _ _ _ _ _ _ _ _ _ _ _ _ _ _ _ _ _
  · obtain ⟨X, hX⟩ : ∃ X, X = (((((wa.setCell ⟨W.heap.size, 0, none⟩ (.int .i64 c.s)).setCell ⟨W.heap.size, 1, none⟩ (.int .i64 c.h)).setCell ⟨W.heap.size, 2, none⟩ (.int .i64 c.g)).setCell ⟨W.heap.size, 3, none⟩ (.int .i64 c.n)).setCell ⟨W.heap.size, 4, none⟩ (.string (bs c.v))) := ⟨_, rfl⟩
    obtain ⟨D, hD⟩ : ∃ D, Hid (D = W.heap.size) := ⟨_, rfl⟩
    have HX : Hid (CcAt X D c.s c.h c.g c.n c.v ∧ JdAt X b j K ∧ Kept (One b) w X ∧ b ≠ D) := by
      have P1 : CcAt wa W.heap.size 0 0 0 0 [] := P0.out
      have kk : Kept Nil W X := by rw [hX]; exact (((((Ka.out.setNew (p := ⟨W.heap.size, 0, none⟩) (Nat.le_refl _) _).setNew (p := ⟨W.heap.size, 1, none⟩) (Nat.le_refl _) _).setNew (p := ⟨W.heap.size, 2, none⟩) (Nat.le_refl _) _).setNew (p := ⟨W.heap.size, 3, none⟩) (Nat.le_refl _) _).setNew (p := ⟨W.heap.size, 4, none⟩) (Nat.le_refl _) _)
      rw [hX, hD.out]
      rw [hX] at kk
      exact ⟨((((P1.s0 c.s).s1 c.h).s2 c.g).s3 c.n).s4 c.v, HJ.out.kept kk, kept_oneN (KW.out.trans kk), by omega⟩
    rw [← hX, ← hD.out]
    clear hX P0c0 P0c1 P0c2 P0c3 P0c4 P0f0 P0f1 P0f2 P0f3 P0f4
    have HJX : Hid (JdAt X b j K) := HX.out.2.1
    have HDX : Hid (CcAt X D c.s c.h c.g c.n c.v) := HX.out.1
    have hbD : b ≠ D := HX.out.2.2.2
    have hDb : D ≠ b := fun e => hbD e.symm
    clear q0 a0 a1 a2 a3 sa
    have d0 : X.cell? ⟨D, 0, none⟩ = some (.int .i64 c.s) := blk_at HDX.out 0 rfl
    have d1 : X.cell? ⟨D, 1, none⟩ = some (.int .i64 c.h) := blk_at HDX.out 1 rfl
    have d2 : X.cell? ⟨D, 2, none⟩ = some (.int .i64 c.g) := blk_at HDX.out 2 rfl
    have d3 : X.cell? ⟨D, 3, none⟩ = some (.int .i64 c.n) := blk_at HDX.out 3 rfl
    have d4 : X.cell? ⟨D, 4, none⟩ = some (.string (bs c.v)) := blk_at HDX.out 4 rfl
    have q7 : X.cell? ⟨b, 7, none⟩ = some (.int .i64 j.sn.s) := blk_at HJX.out 7 rfl
    have q8 : X.cell? ⟨b, 8, none⟩ = some (.int .i64 j.sn.h) := blk_at HJX.out 8 rfl
    have q9 : X.cell? ⟨b, 9, none⟩ = some (.int .i64 j.sn.g) := blk_at HJX.out 9 rfl
    have q10 : X.cell? ⟨b, 10, none⟩ = some (.int .i64 j.sn.n) := blk_at HJX.out 10 rfl
    have q11 : X.cell? ⟨b, 11, none⟩ = some (.string (bs j.sn.v)) := blk_at HJX.out 11 rfl
    have q17 : X.cell? ⟨b, 17, none⟩ = some (.int .i64 j.sv) := blk_at HJX.out 17 rfl
    have f7 : X.frozen? ⟨b, 7, none⟩ = false := blk_free HJX.out 7
    have f8 : X.frozen? ⟨b, 8, none⟩ = false := blk_free HJX.out 8
    have f9 : X.frozen? ⟨b, 9, none⟩ = false := blk_free HJX.out 9
    have f10 : X.frozen? ⟨b, 10, none⟩ = false := blk_free HJX.out 10
    have f11 : X.frozen? ⟨b, 11, none⟩ = false := blk_free HJX.out 11
    have f17 : X.frozen? ⟨b, 17, none⟩ = false := blk_free HJX.out 17
    obtain ⟨Z, hZ⟩ : ∃ Z, Z = ((((((X.setCell ⟨b, 7, none⟩ (.int .i64 c.s)).setCell ⟨b, 8, none⟩ (.int .i64 c.h)).setCell ⟨b, 9, none⟩ (.int .i64 c.g)).setCell ⟨b, 10, none⟩ (.int .i64 c.n)).setCell ⟨b, 11, none⟩ (.string (bs c.v))).setCell ⟨b, 17, none⟩ (.int .i64 vv)) := ⟨_, rfl⟩
    have HZ : Hid (JdAt Z b { j with sn := c, sv := vv } K ∧ CcAt Z D c.s c.h c.g c.n c.v ∧ Kept (One b) w Z) := by rw [hZ]; exact ⟨(HJX.out.sn5 c).s17 vv, (CcAt.off (CcAt.off (CcAt.off (CcAt.off (CcAt.off (CcAt.off HDX.out hbD 7 _) hbD 8 _) hbD 9 _) hbD 10 _) hbD 11 _) hbD 17 _), ((((((HX.out.2.2.1.setCell (p := ⟨b, 7, none⟩) (fun _ => rfl) _).setCell (p := ⟨b, 8, none⟩) (fun _ => rfl) _).setCell (p := ⟨b, 9, none⟩) (fun _ => rfl) _).setCell (p := ⟨b, 10, none⟩) (fun _ => rfl) _).setCell (p := ⟨b, 11, none⟩) (fun _ => rfl) _).setCell (p := ⟨b, 17, none⟩) (fun _ => rfl) _)⟩
    go_upto_region 3 with fail
    go_cut [] from 23 to 26 (fun wc => wc = Z)
    case first =>
      go_wp2
      rw [← hZ]
      go_meet
      exact rfl
    case rest =>
      rename World => w9
      have e9 : w9 = Z := hcut
      clear hcut hZ d0 d1 d2 d3 d4 q7 q8 q9 q10 q11 q17 f7 f8 f9 f10 f11 f17
      rw [e9]
      have H1 : Hid (JdAt Z b { j with sn := c, sv := vv } K) := HZ.out.1
      have H2 : Hid (CcAt Z D c.s c.h c.g c.n c.v) := HZ.out.2.1
      have H3 : Hid (Kept (One b) w Z) := HZ.out.2.2
      apply_assumption
      exact jrT4 w Z b D { j with sn := c, sv := vv } u K H1 H2 H3 HC HO4 Hp Hu _ _ _ _ _ _ _ _ _ _ _ _ _ _ _ _ _ _ _ _ _ _ _ _ _ _ _ _ _ _ _ _ _ _ _ _ _ _ _ _ _ _ _ _ _ _ _ _ _ _ _ _ _ _ _ _ _ _ _ _ _ _ _ _ _ _ _ _ _ _ _ _ _ _ _ _ _ _ _ _ _ _ _ _ _ _ _ _ _ _ _ _ _ _ _ _ _ _ _ _ _ _ _ _ _ _ _ _ _ _ _ _ _ _ _ _ _ _ _ _ _ _ _ _ _ _ _ _ _ _ _ _ _ _ _ _ _ _ _ _ _ _ _ _ _ _ _ _ _ _ _ _ _ _ _ _ _
set_option maxRecDepth 100000 in
set_option maxHeartbeats 1000000 in
theorem jtake0 (w : World) (b : Nat) (j : Jb) (K : Jk) (h : JdAt w b j K) (hp : j.ph = 0) (r : Rr) (ko : Option Addr) (kc : Nat) (hl : (r.v.length : Int) ≤ 4611686018427387904) (hC : ∀ c : Ce, c.Ok → CmOk j.kd j.k j.v j.m c.v c.n) (ht : j.tg ≤ 4) :
    Calls Tryz.prog 33 #[.pointer (some ⟨b, 0, none⟩), rrV r ko kc] w (JdPost w b (j.answer r)) := by
  obtain ⟨W, hW⟩ : ∃ W, W = w.alloc (.cells #[.int .i64 r.kd, .string (bs r.v), .int .i64 r.n, .slice ko r.ks.length kc] 50) := ⟨_, rfl⟩
  obtain ⟨A, HAe⟩ : ∃ A, Hid (A = w.heap.size) := ⟨_, rfl⟩
  have KW : Hid (Kept Nil w W) := by rw [hW]; exact (Kept.refl _ _).alloc _
  have HA : Hid (W.heap[A]? = some (.cells #[.int .i64 r.kd, .string (bs r.v), .int .i64 r.n, .slice ko r.ks.length kc] 50 (0, 0))) := by rw [hW, HAe.out]; exact blk_new _ _
  have HJ : Hid (JdAt W b j K) := h.kept KW.out
  have hlb : b < W.heap.size := lt_of_block HJ.out
  have hlA : A < W.heap.size := lt_of_block HA.out
  have hbA : b ≠ A := by rw [HAe.out]; have := lt_of_block h; omega
  have hAb : A ≠ b := fun e => hbA e.symm
  have a0 : W.cell? ⟨A, 0, none⟩ = some (.int .i64 r.kd) := blk_at HA.out 0 rfl
  have a1 : W.cell? ⟨A, 1, none⟩ = some (.string (bs r.v)) := blk_at HA.out 1 rfl
  have a2 : W.cell? ⟨A, 2, none⟩ = some (.int .i64 r.n) := blk_at HA.out 2 rfl
  have a3 : W.cell? ⟨A, 3, none⟩ = some (.slice ko r.ks.length kc) := blk_at HA.out 3 rfl
  have q6 : W.cell? ⟨b, 6, none⟩ = some (.int .i64 1) := by
    have e : W.cell? ⟨b, 6, none⟩ = some (.int .i64 ((j.ph : Int) + 1)) := blk_at HJ.out 6 rfl
    rw [hp] at e
    exact e
  obtain ⟨u, Hu⟩ : ∃ u, Hid (u = j.answer r) := ⟨_, rfl⟩
  rw [← Hu.out]
  have HU : Hid (u = j.hasRead r) := by show _ = _; rw [Hu.out]; unfold Jb.answer; rw [if_pos hp]
  have EN : Calls Tryz.prog 92 #[.pointer (some ⟨b, 0, none⟩), .agg #[.int .i64 r.kd, .string (bs r.v), .int .i64 r.n, .slice ko r.ks.length kc]] W (JdPost W b ({ j with sn := sawC j.at' r, sv := versR r } : Jb).seen) := jreads_any W b j K HJ.out hp r ko kc hl hC ht
  clear h Hu hp hl hC ht
  unfold rrV
  by_cases c5 : 5 < r.kd
  · have HU2 : Hid (u = j) := by show _ = _; rw [HU.out]; exact if_pos c5
    have HY : Hid ((∃ K, JdAt W b u K) ∧ Kept (One b) w W) := by rw [HU2.out]; exact ⟨⟨_, HJ.out⟩, kept_oneN KW.out⟩
    clear HU HU2 EN
    go_enter Tryz.func33, Tryz.ntmps33
    go_upto_region 1 with fail
    rw [← hW, ← HAe.out]
    clear hW
    go_wp2
    go_end0
    exact ⟨rfl, HY.out⟩
  · have y5 : ¬ (5 : Int) < r.kd := c5
    have hu : u = ({ j with sn := sawC j.at' r, sv := versR r } : Jb).seen := by rw [HU.out]; exact if_neg c5
    rw [← hu] at EN
    clear hu HU c5
    go_enter Tryz.func33, Tryz.ntmps33
    go_upto_region 1 with fail
    rw [← hW, ← HAe.out]
    clear hW
    go_wp2_with fail
    go_fit EN
    rintro _ w1 ⟨rfl, h1, k1⟩
    have HY : Hid ((∃ K, JdAt w1 b u K) ∧ Kept (One b) w w1) := ⟨h1, (kept_oneN KW.out).trans k1⟩
    clear h1 k1 EN
    go_wp2
    go_end0
    exact ⟨rfl, HY.out⟩
theorem jtake_any (w : World) (b : Nat) (j : Jb) (K : Jk) (h : JdAt w b j K) (r : Rr) (ko : Option Addr) (kc : Nat) (o : j.Ok) (hl : (r.v.length : Int) ≤ 4611686018427387904) (hC : ∀ c : Ce, c.Ok → CmOk j.kd j.k j.v j.m c.v c.n) :
    Calls Tryz.prog 33 #[.pointer (some ⟨b, 0, none⟩), rrV r ko kc] w (JdPost w b (j.answer r)) := by
  have hp := o.ph
  have hc : j.ph = 0 ∨ j.ph = 1 ∨ j.ph = 2 ∨ j.ph = 3 ∨ j.ph = 4 ∨ j.ph = 5 ∨ j.ph = 6 ∨ j.ph = 7 := by omega
  rcases hc with hp | hp | hp | hp | hp | hp | hp | hp
  · exact jtake0 w b j K h hp r ko kc hl hC o.tg
  · exact jtake1 w b j K h hp r ko kc
  · exact jtake2 w b j K h hp r ko kc
  · exact jtake3 w b j K h hp r ko kc
  · exact jtake4 w b j K h hp r ko kc hl
  · exact jtake5 w b j K h hp r ko kc
  · exact jtake6 w b j K h hp r ko kc
  · exact jtake7 w b j K h hp r ko kc
end Go.Proofs.YtflnjlbafchnaaaGreatDoor
