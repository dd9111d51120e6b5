/-
  RelayOnce: the law's turn.
-/
import Derived.Test.YtmlncfnnldplgaaWRo7
namespace Go.Proofs.Ytmlncfnnldplgaa
open Go.RowKit

/-- How much there is. -/
def Sz (m : Nat) (T : Tk) : Prop := T.way.length ≤ 200 * m ∧ ∀ k, (T.sn k).length ≤ m
theorem Sz.mono {m n : Nat} {T : Tk} (h : Sz m T) (hn : m ≤ n) : Sz n T := ⟨by have := h.1; omega, fun k => Nat.le_trans (h.2 k) hn⟩
theorem Sz.send {m : Nat} {T : Tk} (h : Sz m T) (i j : Nat) (body : List UInt8) : Sz (m + 1) (T.send i j body) := by
  unfold Tk.send
  split
  · exact h.mono (Nat.le_succ _)
  · refine ⟨by have := h.1; show T.way.length ≤ _; omega, fun k => ?_⟩
    dsimp only
    have h2 := h.2
    by_cases e : k = 4 * i + j
    · subst e; rw [upd_self, List.length_append]; have := h2 (4 * i + j); simp; omega
    · rw [upd_ne _ _ e]; have := h2 k; omega
theorem Sz.way {m : Nat} {T : Tk} (h : Sz m T) {l : List Pk} (hl : l.length ≤ 200 * (m + 1)) : Sz (m + 1) { T with way := l } := ⟨hl, fun k => by have := h.2 k; show (T.sn k).length ≤ _; omega⟩
/-- What a call of the law's leaves. -/
def TkP (n0 b m : Nat) (w : World) : Ending → World → Prop := fun e w' => e = .returned (.bool true) ∧ (∃ T', TkAt n0 w' b T' ∧ TkI T' ∧ Sz m T') ∧ Kept (Ge n0) w w'
theorem TkI.cut {T : Tk} (h : TkI T) (k : Nat) : TkI { T with way := T.way.eraseIdx k } := h.way fun p hp => h.wy p (List.mem_of_mem_eraseIdx hp)
set_option maxRecDepth 100000 in
set_option maxHeartbeats 8000000 in
theorem tturn_any (n0 b m : Nat) (T : Tk) (kd ho n : Int) (body : List UInt8) (w : World) (h : TkAt n0 w b T) (I : TkI T) (S : Sz m T) (hm : m ≤ 17000) :
    Calls Try.prog 18 #[.pointer (some ⟨b, 0, none⟩), .agg #[.int .i64 kd, .int .i64 ho, .int .i64 n, .string (bs body)]] w (TkP n0 b (m + 1) w) := by
  obtain ⟨M0, hM⟩ := h
  have HSz0 : Hid (n0 ≤ w.heap.size) := hM.size
  obtain ⟨W, hW⟩ : ∃ W, W = w.alloc (.cells #[.int .i64 kd, .int .i64 ho, .int .i64 n, .string (bs body)] 51) := ⟨_, rfl⟩
  obtain ⟨A, HAe⟩ : ∃ A, Hid (A = w.heap.size) := ⟨_, rfl⟩
  have KW : Hid (Kept Nil w W) := by rw [hW]; exact (Kept.refl _ _).alloc _
  have HAW : Hid (W.heap[A]? = some (.cells #[.int .i64 kd, .int .i64 ho, .int .i64 n, .string (bs body)] 51 (0, 0))) := by rw [hW, HAe.out]; exact blk_new _ _
  have HM : Hid (TkM n0 W b T M0) := hM.kept KW.out
  have HI : Hid (TkI T) := I
  have HS : Hid (Sz m T) := S
  have q0 : W.cell? ⟨A, 0, none⟩ = some (.int .i64 kd) := blk_at HAW.out 0 rfl
  have q1 : W.cell? ⟨A, 1, none⟩ = some (.int .i64 ho) := blk_at HAW.out 1 rfl
  have q2 : W.cell? ⟨A, 2, none⟩ = some (.int .i64 n) := blk_at HAW.out 2 rfl
  have q3 : W.cell? ⟨A, 3, none⟩ = some (.string (bs body)) := blk_at HAW.out 3 rfl
  obtain ⟨r0, r1, -, -, -, rfA, rhA⟩ := HM.out.reads
  obtain ⟨l, Hl⟩ : ∃ l, Hid (l = T.way) := ⟨_, rfl⟩
  rw [← Hl.out] at r1
  have hhl := HM.out.hl
  obtain ⟨i, hie⟩ : ∃ i : Nat, ho % 3 = (i : Int) := ⟨(ho % 3).toNat, by omega⟩
  have hi : i < 3 := by omega
  obtain ⟨a2, hae⟩ : ∃ i : Nat, n % 2 = (i : Int) := ⟨(n % 2).toNat, by omega⟩
  have ha2 : a2 < 2 := by omega
  obtain ⟨j, hje⟩ : ∃ j : Nat, ((i : Int) + 1 + (a2 : Int)) % 3 = (j : Int) := ⟨(((i : Int) + 1 + (a2 : Int)) % 3).toNat, by omega⟩
  have hj : j < 3 := by omega
  have hij : i ≠ j := by omega
  obtain ⟨k6, hke⟩ : ∃ i : Nat, kd % 6 = (i : Int) := ⟨(kd % 6).toNat, by omega⟩
  have hk6 : k6 < 6 := by omega
  have P1 := pickD_any ho 3 W (by decide) (by decide)
  have P2 := pickD_any n 2 W (by decide) (by decide)
  have P3 := pickD_any ((i : Int) + 1 + (a2 : Int)) 3 W (by decide) (by decide)
  have P4 := pickD_any kd 6 W (by decide) (by decide)
  rw [hie] at P1
  rw [hae] at P2
  rw [hje] at P3
  rw [hke] at P4
  have hii : (i : Int) < 3 := by omega
  have hai : (a2 : Int) < 2 := by omega
  have hlm : l.length ≤ 3400000 := by have := S.1; rw [Hl.out]; omega
  have hr0 := rhA i hi
  have hsz : n0 ≤ W.heap.size := HM.out.size
  clear hM I S hie hae hje hke rhA rfA
  go_enter Try.func18, Try.ntmps18
  go_upto_region 1 with fail
  rw [← hW, ← HAe.out]
  clear hW
  go_wp2_with fail
  go_fit P1
  rintro e _ ⟨rfl, hw9⟩
  rw [hw9]
  clear hw9 P1
  go_wp2_with fail
  go_fit P2
  rintro e _ ⟨rfl, hw9⟩
  rw [hw9]
  clear hw9 P2
  go_wp2_with fail
  go_fit P3
  rintro e _ ⟨rfl, hw9⟩
  rw [hw9]
  clear hw9 P3
  go_wp2_with fail
  go_fit P4
  rintro e _ ⟨rfl, hw9⟩
  rw [hw9]
  clear hw9 P4
  by_cases h0 : k6 = 0
  · subst h0
    have SD := tsend_any n0 b i j T body W ⟨M0, HM.out⟩ HI.out hi hj hij (fun k => by have := HS.out.2 k; omega)
    go_wp2_with fail
    go_fit SD
    rintro e w2 ⟨rfl, h2, k2⟩
    have HR : Hid (TkP n0 b (m + 1) w (.returned (.bool true)) w2) := ⟨rfl, ⟨_, h2, HI.out.send hi hj hij body, HS.out.send i j body⟩, (KW.out.mono (fun _ _ x => x.elim)).trans k2⟩
    clear SD h2 k2
    go_wp2
    go_ret
    exact HR.out
  · by_cases h1 : k6 = 1
    · subst h1
      have PK := packets_any _ _ _ _ _ _ W (HM.out.rl i hi) (HI.out.fits hi (fun k => by have := HS.out.2 k; omega))
      obtain ⟨ps, Hps⟩ : ∃ l, Hid (l = pksTo ((i + 1 : Nat) : Int) (T.os i) 10) := ⟨_, rfl⟩
      rw [← Hps.out] at PK
      go_wp2_with fail
      go_fit PK
      rintro e w2 ⟨a2', c2', rfl, o2, k2⟩
      have HO2 : Hid (OwnPk W.heap.size w2 a2' c2' ps) := o2
      have HM2 : Hid (TkM n0 w2 b T M0) := HM.out.kept k2
      have KW2 : Hid (Kept Nil w w2) := KW.out.trans k2
      have s1 : w2.cell? ⟨b, 1, none⟩ = some (.slice M0.wa l.length M0.wc) := cell_kept k2 (fun _ x => x) r1
      have f1 : w2.frozen? ⟨b, 1, none⟩ = false := by obtain ⟨_, hc⟩ := HM2.out.cl; exact blk_free hc.blk _
      have HWr : Hid (w2.ownsRow n0 34 5 (.slice M0.wa l.length M0.wc) l.length (pkCells l)) := by have := HM2.out.wy; rw [← Hl.out] at this; exact this
      have HPl : Hid (ps.length ≤ 160) := by rw [Hps.out]; exact pksTo_len _ _ (fun k hk => ((HI.out.fits hi (fun k => by have := HS.out.2 k; omega)) k hk).1) 10 (by omega)
      have SR := HO2.out.src
      have HLL : Hid (l.length + ps.length ≤ maxLen ∧ (l.length + ps.length) * 48 ≤ 140737488355328) := by have := HPl.out; constructor <;> (try unfold maxLen) <;> omega
      obtain ⟨i2, hi2, hx0, hx1, hx2⟩ := info_parts Try.infoOwnPk
      have hsz2 : n0 ≤ w2.heap.size := HM2.out.size
      clear PK o2 k2 q0 q1 q2 q3 r0 r1 hr0
      go_wp2_with (at_builtin; go_must (refine wpList_append_src _ rfl _ _ 28 28 rfl n0 34 i2 (.agg #[.int .i64 0, .int .i64 0, .int .i64 0, .bool false, .string ⟨#[]⟩]) 5 48 Try.underlying28 hi2 hx0 hx1 hx2 rfl (.slice M0.wa l.length M0.wc) l.length (pkCells l) rfl HWr.out (.slice a2' ps.length c2') ps.length (pkCells ps) rfl SR HLL.out.1 HLL.out.2 hsz2 ?_); intro a7 c7 w7 ho7 hg7; have HO7 : Hid (OwnPk n0 w7 a7 c7 (l ++ ps)) := OwnPk.app rfl rfl ho7; have K7 : Hid (Kept (TW n0) w2 w7) := (Kept.refl _ _).grownT hg7 (fun g hg o ho => by have hl := World.ownsRow.lt HWr.out g hg; have hb := HWr.out.2; rcases hb with ⟨e1, _⟩ | ⟨g', _, _, e1, _, hb2, _⟩; (rw [e1] at hg; simp [Value.ownBlock] at hg); (rw [e1] at hg; have e2 : g' = g := (by simpa [Value.ownBlock] using hg); subst e2; rw [hb2] at ho; cases ho; exact ⟨hl.1, _, rfl⟩)); have r7 : w7.cell? ⟨b, 1, none⟩ = some (.slice M0.wa l.length M0.wc) := (by obtain ⟨cells, hc⟩ := HM2.out.cl; rw [blk_cell (K7.out.block _ _ hc.blk (by rintro ⟨_, _, e⟩; simp at e)), ← blk_cell hc.blk]; exact s1); have rf7 : w7.frozen? ⟨b, 1, none⟩ = false := (by obtain ⟨cells, hc⟩ := HM2.out.cl; exact blk_free (K7.out.block _ _ hc.blk (by rintro ⟨_, _, e⟩; simp at e)) _); clear ho7 hg7)
      go_ret
      refine ⟨rfl, ⟨{ T with way := l ++ ps }, ⟨_, HM2.out.cell K7.out _ _ (.inl ⟨a7, c7, l ++ ps, rfl, by rw [List.length_append], HO7.out, rfl, rfl⟩)⟩, HI.out.way (fun p hp => ?_), HS.out.way ?_⟩, ((KW2.out.mono (fun _ _ x => x.elim)).trans (K7.out.mono tw_ge)).setT (fun _ _ => HM2.out.nb) _ _⟩
      · rcases List.mem_append.1 hp with hp | hp
        · exact HI.out.wy p (by rw [← Hl.out]; exact hp)
        · rw [Hps.out] at hp; exact (HI.out.waits hi p hp).1
      · have h1 := HS.out.1
        have h2 := HPl.out
        rw [← Hl.out] at h1
        rw [List.length_append]
        omega
    · have e0 : ((k6 : Int) == 0) = false := by simp; omega
      have e1 : ((k6 : Int) == 1) = false := by simp; omega
      obtain ⟨N, HN⟩ : ∃ N : Nat, Hid (N = l.length) := ⟨_, rfl⟩
      rw [← HN.out] at r1 hlm ⊢
      have TRUE : Hid (TkP n0 b (m + 1) w (.returned (.bool true)) W) := ⟨rfl, ⟨T, ⟨M0, HM.out⟩, HI.out, HS.out.mono (Nat.le_succ _)⟩, KW.out.mono (fun _ _ x => x.elim)⟩
      rcases Nat.eq_zero_or_pos N with hN | hN
      · subst hN
        go_wp2
        all_goals (go_ret; exact TRUE.out)
      · clear TRUE
        have hNi : (0 : Int) < (N : Int) := by omega
        obtain ⟨z, hze⟩ : ∃ z : Nat, n % (N : Int) = (z : Int) := ⟨(n % (N : Int)).toNat, by have := Int.emod_nonneg n (show (N : Int) ≠ 0 by omega); omega⟩
        have hzN : z < N := by have := Int.emod_lt_of_pos n hNi; omega
        have PN := fun X => pickD_any n (N : Int) X hNi (by omega)
        rw [hze] at PN
        clear hze
        have HzT : Hid (z < T.way.length) := by rw [← Hl.out, ← HN.out]; exact hzN
        have OF := toff_any n0 b z T W ⟨M0, HM.out⟩ HzT.out (by rw [← Hl.out, ← HN.out]; omega)
        obtain ⟨y, HY⟩ : ∃ y : Pk, Hid (y = T.way[z]'HzT.out) := ⟨T.way[z]'HzT.out, (rfl : T.way[z]'HzT.out = T.way[z]'HzT.out)⟩
        rw [← HY.out] at OF
        unfold pkV at OF
        by_cases h2 : k6 = 2
        · subst h2
          obtain ⟨g, eg, -, hgl, d0, d1, d2, d3, d4, -⟩ := HM.out.wy.cells HzT.out
          rw [eg] at r1
          rw [← HY.out] at d0 d1 d2 d3 d4
          obtain ⟨wc0, Hwc⟩ : ∃ a, Hid (a = M0.wc) := ⟨_, rfl⟩
          rw [← Hwc.out] at r1
          have HWr : Hid (W.ownsRow n0 34 5 (.slice (some ⟨g, 0, none⟩) N wc0) N (pkCells l)) := by have := HM.out.wy; rw [eg, ← Hl.out, ← Hwc.out] at this; unfold OwnPk at this; rw [← HN.out] at this; exact this
          have hzi : (z : Int) < (N : Int) := by omega
          have SRx : Hid (Src Try.prog 5 28 (.slice (some ⟨W.heap.size, 0, none⟩) 1 1) 1 [.int .i64 y.fr, .int .i64 y.ds, .int .i64 y.nu, .bool y.ak, .string (bs y.bd)] (W.drew.alloc (.cells #[.int .i64 y.fr, .int .i64 y.ds, .int .i64 y.nu, .bool y.ak, .string (bs y.bd)] 34))) := oneOwnPk_src W.drew y
          have HLL : Hid (N + 1 ≤ maxLen ∧ (N + 1) * 48 ≤ 140737488355328) := by constructor <;> (try unfold maxLen) <;> omega
          obtain ⟨i2, hi2, hx0, hx1, hx2⟩ := info_parts Try.infoOwnPk
          have hbl : b < W.heap.size := by obtain ⟨_, hc⟩ := HM.out.cl; exact lt_of_block hc.blk
          have hAl : A < W.heap.size := lt_of_block HAW.out
          clear OF eg q0 q1 q3 r0 hr0
          go_upto_region 11 with fail
          go_region_law (first | (refine step_append_src (W.drew.alloc (.cells #[.int .i64 y.fr, .int .i64 y.ds, .int .i64 y.nu, .bool y.ak, .string (bs y.bd)] 34)) rfl (.tmp 69) (.tmp 80) 28 28 rfl n0 34 i2 (.agg #[.int .i64 0, .int .i64 0, .int .i64 0, .bool false, .string ⟨#[]⟩]) 5 48 Try.underlying28 hi2 hx0 hx1 hx2 rfl (.slice (some ⟨g, 0, none⟩) N wc0) N (pkCells l) (by simp [Act.eval]) (World.ownsRow.alloc (w := W.drew) HWr.out _) (.slice (some ⟨W.heap.size, 0, none⟩) 1 1) 1 [.int .i64 y.fr, .int .i64 y.ds, .int .i64 y.nu, .bool y.ak, .string (bs y.bd)] (by simp [Act.eval]) SRx.out HLL.out.1 HLL.out.2 (le_alloc (w := W.drew) hsz _) ?_; intro a7 c7 w7 ho7 hg7; have HO7 : Hid (OwnPk n0 w7 a7 c7 (l ++ [y])) := OwnPk.app (gs := [y]) HN.out rfl ho7; have K7 : Hid (Kept (TW n0) W w7) := ((Kept.refl _ _).drew.alloc _).grownT hg7 (fun g hg o ho => by have hl := World.ownsRow.lt HWr.out g hg; have hb := HWr.out.2; rcases hb with ⟨e1, _⟩ | ⟨g', _, _, e1, _, hb2, _⟩; (rw [e1] at hg; simp [Value.ownBlock] at hg); (rw [e1] at hg; have e2 : g' = g := (by simpa [Value.ownBlock] using hg); subst e2; rw [hb2] at ho; cases ho; exact ⟨hl.1, _, rfl⟩)); have r7 : w7.cell? ⟨b, 1, none⟩ = some (.slice (some ⟨g, 0, none⟩) N wc0) := (by obtain ⟨cells, hc⟩ := HM.out.cl; rw [blk_cell (K7.out.block _ _ hc.blk (by rintro ⟨_, _, e⟩; simp at e)), ← blk_cell hc.blk]; exact r1); have rf7 : w7.frozen? ⟨b, 1, none⟩ = false := (by obtain ⟨cells, hc⟩ := HM.out.cl; exact blk_free (K7.out.block _ _ hc.blk (by rintro ⟨_, _, e⟩; simp at e)) _); clear ho7 hg7) | (go_simp; go_at_call 22; go_must (go_fit (PN W.drew)); rintro e _ ⟨rfl, hw9⟩; rw [hw9]; clear hw9))
          all_goals
            have HR : Hid (TkP n0 b (m + 1) w (.returned (.bool true)) (w7.setCell ⟨b, 1, none⟩ (.slice a7 (N + 1) c7))) := by
              refine ⟨rfl, ⟨{ T with way := l ++ [y] }, ⟨_, HM.out.cell K7.out _ _ (.inl ⟨a7, c7, l ++ [y], rfl, by rw [List.length_append, HN.out]; rfl, HO7.out, rfl, rfl⟩)⟩, HI.out.way (fun p hp => ?_), HS.out.way ?_⟩, ((KW.out.mono (fun _ _ x => x.elim)).trans (K7.out.mono tw_ge)).setT (fun _ _ => HM.out.nb) _ _⟩
              · rcases List.mem_append.1 hp with hp | hp
                · exact HI.out.wy p (by rw [← Hl.out]; exact hp)
                · rw [List.mem_singleton] at hp; subst hp; exact HI.out.wy _ (by rw [HY.out]; exact List.getElem_mem _)
              · have h1 := HS.out.1
                rw [← Hl.out] at h1
                rw [List.length_append]
                simp
                omega
            go_wp2
            go_ret
            exact HR.out
        · have e2 : ((k6 : Int) == 2) = false := by simp; omega
          by_cases h3 : k6 = 3
          · subst h3
            have PNW := PN W
            go_wp2_with fail
            go_fit PNW
            rintro e _ ⟨rfl, hw9⟩
            rw [hw9]
            clear hw9 PNW PN
            go_wp2_with fail
            go_fit OF
            rintro e w2 ⟨rfl, o2, k2⟩
            have HR : Hid (TkP n0 b (m + 1) w (.returned (.bool true)) w2) := ⟨rfl, ⟨_, o2, HI.out.cut z, HS.out.way (by have := HS.out.1; rw [List.length_eraseIdx_of_lt HzT.out]; omega)⟩, (KW.out.mono (fun _ _ x => x.elim)).trans k2⟩
            clear OF o2 k2
            go_wp2
            go_ret
            exact HR.out
          · have e3 : ((k6 : Int) == 3) = false := by simp; omega
            obtain ⟨i', j', hi', hj', hij', g1, g2, g3, g4, g5⟩ := HI.out.wy y (by rw [HY.out]; exact List.getElem_mem _)
            have HG : Hid (i' < 3 ∧ j' < 3 ∧ i' ≠ j' ∧ y.fr = (i' : Int) + 1 ∧ y.ds = (j' : Int) + 1 ∧ 1 ≤ y.nu ∧ (y.ak = true → y.nu ≤ (T.cm (4 * j' + i')).length) ∧ (y.ak = false → y.nu ≤ (T.sn (4 * i' + j')).length ∧ (T.sn (4 * i' + j'))[y.nu.toNat - 1]? = some y.bd)) := ⟨hi', hj', hij', g1, g2, g3, g4, g5⟩
            have HNu : Hid (y.nu ≤ 1000000) := by
              show y.nu ≤ 1000000
              rcases Bool.eq_false_or_eq_true y.ak with hak | hak
              · have h1 := g4 hak
                have h2 := (HI.out.le (4 * j' + i') (by omega)).2.1
                have h3 := HS.out.2 (4 * j' + i')
                omega
              · have h1 := (g5 hak).1
                have h3 := HS.out.2 (4 * i' + j')
                omega
            clear hi' hj' hij' g1 g2 g3 g4 g5
            have PNW := PN W
            go_wp2_with fail
            go_fit PNW
            rintro e _ ⟨rfl, hw9⟩
            rw [hw9]
            clear hw9 PNW PN
            go_wp2_with fail
            go_fit OF
            rintro e w2 ⟨rfl, o2, k2⟩
            obtain ⟨T2, HT2⟩ : ∃ t : Tk, Hid (t = { T with way := T.way.eraseIdx z }) := ⟨_, rfl⟩
            rw [← HT2.out] at o2
            have HW2 : Hid (TkAt n0 w2 b T2) := o2
            have K2 : Hid (Kept (Ge n0) w w2) := (KW.out.mono (fun _ _ x => x.elim)).trans k2
            have HI2 : Hid (TkI T2) := by rw [HT2.out]; exact HI.out.cut z
            have HS2 : Hid (Sz (m + 1) T2 ∧ T2.way.length + 1 ≤ 200 * (m + 1)) := by
              have := HS.out.1
              rw [HT2.out]
              refine ⟨HS.out.way ?_, ?_⟩ <;> ((try dsimp only); rw [List.length_eraseIdx_of_lt HzT.out]; omega)
            have HZ2 : Hid (∀ k, (T2.sn k).length ≤ 1000000) := fun k => by have := HS2.out.1.2 k; omega
            clear OF o2 k2 q0 q1 q2 q3 r0 r1 hr0
            go_upto_region 16 with fail
            obtain ⟨W3, hW3⟩ : ∃ W, W = w2.alloc (.cells #[.int .i64 y.fr, .int .i64 y.ds, .int .i64 y.nu, .bool y.ak, .string (bs y.bd)] 34) := ⟨_, rfl⟩
            have K3 : Hid (Kept Nil w2 W3) := by rw [hW3]; exact (Kept.refl _ _).alloc _
            have HB3 : Hid (W3.heap[w2.heap.size]? = some (.cells #[.int .i64 y.fr, .int .i64 y.ds, .int .i64 y.nu, .bool y.ak, .string (bs y.bd)] 34 (0, 0))) := by rw [hW3]; exact blk_new _ _
            rw [← hW3]
            clear hW3
            have u0 := blk_at HB3.out 0 rfl
            have u1 := blk_at HB3.out 1 rfl
            have u2 := blk_at HB3.out 2 rfl
            have u3 := blk_at HB3.out 3 rfl
            have u4 := blk_at HB3.out 4 rfl
            have CM := tcomes_any n0 b i' j' T2 y W3 (by obtain ⟨M2, h2⟩ := HW2.out; exact ⟨M2, h2.kept K3.out⟩) HI2.out HG.out.1 HG.out.2.1 HG.out.2.2.1 HG.out.2.2.2.1 HG.out.2.2.2.2.1 HG.out.2.2.2.2.2.1 HNu.out HZ2.out (by have := HS2.out.2; omega)
            unfold pkV at CM
            go_wp2_with fail
            go_fit CM
            rintro e w4 ⟨rfl, o4, k4⟩
            have HR : Hid (TkP n0 b (m + 1) w (.returned (.bool true)) w4) := by
              refine ⟨rfl, ⟨_, o4, HI2.out.come HG.out.1 HG.out.2.1 HG.out.2.2.1 HG.out.2.2.2.1 HG.out.2.2.2.2.2.1 ?_ ?_, ?_, ?_⟩, (K2.out.trans (K3.out.mono (fun _ _ x => x.elim))).trans k4⟩
              · rw [HT2.out]; exact HG.out.2.2.2.2.2.2.1
              · rw [HT2.out]; exact HG.out.2.2.2.2.2.2.2
              · have := come_len T2 i' j' y; have := HS2.out.2; omega
              · exact fun k => HS2.out.1.2 k
            clear CM o4 k4
            go_wp2
            go_ret
            exact HR.out
end Go.Proofs.Ytmlncfnnldplgaa
