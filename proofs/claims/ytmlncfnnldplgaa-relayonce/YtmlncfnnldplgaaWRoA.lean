/-
  RelayOnce: the law's walk.
-/
import Derived.Test.YtmlncfnnldplgaaWRo9
namespace Go.Proofs.Ytmlncfnnldplgaa
open Go.RowKit

/-- A turn of the law's script. -/
structure Tu where
  kd : Int
  ho : Int
  n : Int
  bd : List UInt8
def TuRow (B : Nat) (w : World) (ao : Option Addr) (ss : List Tu) : Prop := ∀ j, (hj : j < ss.length) → ∃ a, ao = some a ∧ a.block < B ∧ w.cell? (a.add (j * 4)) = some (.int .i64 ss[j].kd) ∧ w.cell? ⟨(a.add (j * 4)).block, (a.add (j * 4)).off + 1, none⟩ = some (.int .i64 ss[j].ho) ∧ w.cell? ⟨(a.add (j * 4)).block, (a.add (j * 4)).off + 2, none⟩ = some (.int .i64 ss[j].n) ∧ w.cell? ⟨(a.add (j * 4)).block, (a.add (j * 4)).off + 3, none⟩ = some (.string (bs ss[j].bd))
theorem TuRow.nil {B : Nat} {w w' : World} {ao : Option Addr} {ss : List Tu} (h : TuRow B w ao ss) (hk : Kept Nil w w') : TuRow B w' ao ss := by
  intro j hj
  obtain ⟨a, ha, hb, c0, c1, c2, c3⟩ := h j hj
  exact ⟨a, ha, hb, cell_kept hk (fun _ x => x) c0, cell_kept hk (fun _ x => x) c1, cell_kept hk (fun _ x => x) c2, cell_kept hk (fun _ x => x) c3⟩
/-- How much there is at most, when all is to come. -/
def Lm (T : Tk) : Prop := T.way.length ≤ 3400000 ∧ ∀ q, (T.sn q).length ≤ 17000
theorem head_erase {α : Type} : ∀ {l : List α} (h : 0 < l.length), l = l[0] :: l.eraseIdx 0
  | _ :: _, _ => rfl
theorem Sz.zero : Sz 0 tk0 := ⟨by simp [tk0], fun k => by simp [tk0]⟩
set_option maxRecDepth 100000 in
set_option maxHeartbeats 20000000 in
theorem relayOnce_any (w : World) (B c : Nat) (ao : Option Addr) (ss : List Tu) (h : TuRow B w ao ss) (hl : (ss.length : Int) ≤ 9000000000000) :
    Calls Try.prog 4 #[.slice ao ss.length c] w fun e w' => e = .returned (.bool true) ∧ Kept Nil w w' := by
  have HR : Hid (TuRow B w ao ss) := h
  clear h
  by_cases hbig : (ss.length : Int) > 16384
  · go_enter Try.func4, Try.ntmps4
    go_wp2
    go_ret
    exact ⟨rfl, Kept.refl _ _⟩
  · have TA := talks_any w
    obtain ⟨n0, Hn0⟩ : ∃ n, Hid (n = w.heap.size) := ⟨_, rfl⟩
    have HNw : Hid (w.heap.size ≤ n0) := by rw [Hn0.out]; exact Nat.le_refl _
    rw [← Hn0.out] at TA
    go_enter Try.func4, Try.ntmps4
    go_wp2_with fail
    go_fit TA
    rintro e w1 ⟨rfl, t1, k1⟩
    have SD := tsend_any n0 n0 0 1 tk0 [102, 105, 114, 115, 116] w1 t1 tk0_inv (by omega) (by omega) (by omega) (fun k => by simp [tk0])
    have HK1 : Hid (Kept Nil w w1) := k1
    rw [show ((0 : Nat) : Int) = 0 from rfl, show ((1 : Nat) : Int) = 1 from rfl] at SD
    clear TA t1 k1
    go_wp2_with fail
    go_fit SD
    rintro e w2 ⟨rfl, t2, k2⟩
    obtain ⟨T2, HT2⟩ : ∃ t, Hid (t = tk0.send 0 1 [102, 105, 114, 115, 116]) := ⟨_, rfl⟩
    rw [← HT2.out] at t2
    have HA2 : Hid (TkAt n0 w2 n0 T2) := t2
    have HI2 : Hid (TkI T2) := by rw [HT2.out]; exact tk0_inv.send (by omega) (by omega) (by omega) _
    have HS2 : Hid (Sz 1 T2) := by rw [HT2.out]; exact Sz.zero.send 0 1 _
    have HK2 : Hid (Kept Nil w w2) := HK1.out.newG k2 HNw.out
    clear SD t2 k2 HK1 HT2
    go_upto_block 0 with fail
    go_cut [4] (fun s wc => s = .bool true ∧ Hid (∃ T, TkAt n0 wc n0 T ∧ TkI T ∧ Lm T) ∧ Hid (Kept Nil w wc))
    case first =>
      go_wp2_with fail
      go_loopw [4, 5] (fun s u wr => ∃ k : Nat, ∃ T : Tk, k ≤ ss.length ∧ s = .bool true ∧ u = .int .i64 k ∧ Hid (TkAt n0 wr n0 T) ∧ Hid (TkI T) ∧ Hid (Sz (k + 1) T) ∧ Hid (Kept Nil w wr)) (fun _ u _ => ss.length - (intOf u).toNat)
      case atStart => exact ⟨0, T2, Nat.zero_le _, rfl, rfl, HA2.out, HI2.out, HS2.out, HK2.out⟩
      case round =>
        obtain ⟨k, T, hk, rfl, rfl, HA, HI, HS, HK⟩ := hrel
        clear HA2 HI2 HS2 HK2
        by_cases hlt : k < ss.length
        · have hki : (k : Int) < ss.length := by omega
          obtain ⟨a, e, _, c0, c1, c2, c3⟩ := (HR.out.nil HK.out) k hlt
          subst e
          obtain ⟨y, HYe⟩ : ∃ y : Tu, Hid (y = ss[k]) := ⟨ss[k], (rfl : ss[k] = ss[k])⟩
          rw [← HYe.out] at c0 c1 c2 c3
          have TU := tturn_any n0 n0 (k + 1) T y.kd y.ho y.n y.bd wr HA.out HI.out HS.out (by omega)
          go_wp2_with fail
          go_fit TU
          rintro e w3 ⟨rfl, ⟨T3, t3, i3, s3⟩, k3⟩
          have HI3 : Hid (TkI T3) := i3
          have HS3 : Hid (Sz (k + 1 + 1) T3) := s3
          have HK3 : Hid (Kept Nil w w3) := HK.out.newG k3 HNw.out
          have RT := tright_any n0 n0 T3 w3 t3 i3 (fun q => by have := s3.2 q; omega)
          clear TU t3 i3 s3 k3 c0 c1 c2 c3
          go_wp2_with fail
          go_fit RT
          rintro e w4 ⟨rfl, t4, k4⟩
          have HA4 : Hid (TkAt n0 w4 n0 T3) := t4
          have HK4 : Hid (Kept Nil w w4) := HK3.out.newG k4 HNw.out
          clear RT t4 k4
          go_wp2
          go_roundw
          case rel => exact ⟨k + 1, T3, by omega, rfl, by go_num, HA4.out, HI3.out, HS3.out, HK4.out⟩
          case measure => simp [intOf]; omega
        · obtain rfl : k = ss.length := by omega
          have hirr : ¬ (ss.length : Int) < ss.length := by omega
          have HL : Hid (Lm T) := ⟨by have := HS.out.1; omega, fun q => by have := HS.out.2 q; omega⟩
          go_wp2
          go_meet
          exact ⟨rfl, ⟨T, HA.out, HI.out, HL.out⟩, HK.out⟩
    case rest =>
      obtain ⟨rfl, HX3, HK3⟩ := hcut
      rename World => w3
      clear HA2 HI2 HS2 HK2
      go_upto_block 2 with fail
      go_cut [4] (fun s wc => s = .bool true ∧ Hid (∃ T, TkAt n0 wc n0 T ∧ TkI T ∧ Lm T ∧ ∀ i, i < 3 → Dn i T) ∧ Hid (Kept Nil w wc))
      case first =>
        go_wp2_with fail
        go_loopw [4, 6] (fun s u wr => ∃ k : Nat, ∃ T : Tk, k ≤ 6 ∧ s = .bool true ∧ u = .int .i64 k ∧ Hid (TkAt n0 wr n0 T) ∧ Hid (TkI T) ∧ Hid (Lm T) ∧ Hid (∀ i, i < 3 → i < k → Dn i T) ∧ Hid (Kept Nil w wr)) (fun _ u _ => 6 - (intOf u).toNat)
        case atStart =>
          obtain ⟨T, h1, h2, h3⟩ := HX3.out
          exact ⟨0, T, by omega, rfl, rfl, h1, h2, h3, fun i _ h => absurd h (by omega), HK3.out⟩
        case round =>
          obtain ⟨k, T, hk, rfl, rfl, HA, HI, HL, HD, HK⟩ := hrel
          clear HX3 HK3
          obtain ⟨wo, hwo⟩ : ∃ x : World, x = wr := ⟨_, rfl⟩
          rw [← hwo] at HA HK ⊢
          clear hwo
          by_cases hlt : k < 6
          · have hki : (k : Int) < 6 := by omega
            obtain ⟨h, Hh⟩ : ∃ h, Hid (h = k % 3) := ⟨_, rfl⟩
            have hh3 : h < 3 := by have := Hh.out; omega
            have hmod : (k : Int).tmod 3 = (h : Int) := by have := Hh.out; rw [Int.tmod_eq_emod_of_nonneg (by omega)]; omega
            obtain ⟨M, hM⟩ := HA.out
            have HM : Hid (TkM n0 wo n0 T M) := hM
            obtain ⟨r0, r1, -, -, -, -, rhA⟩ := hM.reads
            have rh := rhA h hh3
            have hhi : (h : Int) < 3 := by omega
            have hhl := hM.hl
            obtain ⟨l, Hl⟩ : ∃ l, Hid (l = T.way) := ⟨_, rfl⟩
            rw [← Hl.out] at r1
            have hlm : l.length ≤ 3400000 := by rw [Hl.out]; exact HL.out.1
            have PK := packets_any _ _ _ _ _ _ wo (hM.rl h hh3) (HI.out.fits hh3 (fun q => by have := HL.out.2 q; omega))
            obtain ⟨ps, Hps⟩ : ∃ l, Hid (l = pksTo ((h + 1 : Nat) : Int) (T.os h) 10) := ⟨_, rfl⟩
            rw [← Hps.out] at PK
            clear hM rhA
            go_wp2_with fail
            go_fit PK
            rintro e w4 ⟨a4, c4, rfl, o4, k4⟩
            have HO4 : Hid (OwnPk wo.heap.size w4 a4 c4 ps) := o4
            have HM4 : Hid (TkM n0 w4 n0 T M) := HM.out.kept k4
            have HK4 : Hid (Kept Nil w w4) := HK.out.trans k4
            have s1 : w4.cell? ⟨n0, 1, none⟩ = some (.slice M.wa l.length M.wc) := cell_kept k4 (fun _ x => x) r1
            have f1 : w4.frozen? ⟨n0, 1, none⟩ = false := by obtain ⟨_, hc⟩ := HM4.out.cl; exact blk_free hc.blk _
            have HWr : Hid (w4.ownsRow n0 34 5 (.slice M.wa l.length M.wc) l.length (pkCells l)) := by have := HM4.out.wy; rw [← Hl.out] at this; exact this
            have HPl : Hid (ps.length ≤ 160) := by rw [Hps.out]; exact pksTo_len _ _ (fun k hk => ((HI.out.fits hh3 (fun q => by have := HL.out.2 q; omega)) k hk).1) 10 (by omega)
            have SR := HO4.out.src
            have HLL : Hid (l.length + ps.length ≤ maxLen ∧ (l.length + ps.length) * 48 ≤ 140737488355328) := by have := HPl.out; constructor <;> (try unfold maxLen) <;> omega
            obtain ⟨i2, hi2, hx0, hx1, hx2⟩ := info_parts Try.infoOwnPk
            have hsz4 : n0 ≤ w4.heap.size := HM4.out.size
            clear PK o4 k4 r0 r1 rh
            go_upto_region 18 with (at_builtin; go_must (refine wpList_append_src _ rfl _ _ 28 28 rfl n0 34 i2 (.agg #[.int .i64 0, .int .i64 0, .int .i64 0, .bool false, .string ⟨#[]⟩]) 5 48 Try.underlying28 hi2 hx0 hx1 hx2 rfl (.slice M.wa l.length M.wc) l.length (pkCells l) rfl HWr.out (.slice a4 ps.length c4) ps.length (pkCells ps) rfl SR HLL.out.1 HLL.out.2 hsz4 ?_); intro a7 c7 w7 ho7 hg7; have HO7 : Hid (OwnPk n0 w7 a7 c7 (l ++ ps)) := OwnPk.app rfl rfl ho7; have K7 : Hid (Kept (TW n0) w4 w7) := (Kept.refl _ _).grownT hg7 (fun g hg o ho => by have hl := World.ownsRow.lt HWr.out g hg; have hb := HWr.out.2; rcases hb with ⟨e1, _⟩ | ⟨g', _, _, e1, _, hb2, _⟩; (rw [e1] at hg; simp [Value.ownBlock] at hg); (rw [e1] at hg; have e2 : g' = g := (by simpa [Value.ownBlock] using hg); subst e2; rw [hb2] at ho; cases ho; exact ⟨hl.1, _, rfl⟩)); have r7 : w7.cell? ⟨n0, 1, none⟩ = some (.slice M.wa l.length M.wc) := (by obtain ⟨cells, hc⟩ := HM4.out.cl; rw [blk_cell (K7.out.block _ _ hc.blk (by rintro ⟨_, _, e⟩; simp at e)), ← blk_cell hc.blk]; exact s1); have rf7 : w7.frozen? ⟨n0, 1, none⟩ = false := (by obtain ⟨cells, hc⟩ := HM4.out.cl; exact blk_free (K7.out.block _ _ hc.blk (by rintro ⟨_, _, e⟩; simp at e)) _); clear ho7 hg7)
            obtain ⟨V, hV⟩ : ∃ V, V = w7.setCell ⟨n0, 1, none⟩ (.slice a7 (l.length + ps.length) c7) := ⟨_, rfl⟩
            obtain ⟨T5, HT5⟩ : ∃ t : Tk, Hid (t = { T with way := T.way ++ pksTo ((h + 1 : Nat) : Int) (T.os h) 10 }) := ⟨_, rfl⟩
            obtain ⟨ml, Hml⟩ : ∃ ml, Hid (ml = l.length + ps.length) := ⟨_, rfl⟩
            have HTW : Hid (T5.way = l ++ ps) := by show _ = _; rw [HT5.out, Hl.out, Hps.out]
            have HM5 : Hid (TkM n0 V n0 T5 { M with wa := a7, wc := c7 }) := by
              rw [hV]
              exact HM4.out.cell K7.out _ _ (.inl ⟨a7, c7, l ++ ps, rfl, by rw [List.length_append], HO7.out, by rw [HT5.out, Hl.out, Hps.out], rfl⟩)
            have HK5 : Hid (Kept Nil w V) := by rw [hV]; exact HK4.out.newG ((K7.out.mono tw_ge).setT (fun _ _ => HM4.out.nb) _ _) HNw.out
            have HI5 : Hid (TkI T5) := by
              rw [HT5.out]
              refine HI.out.way (fun p hp => ?_)
              rcases List.mem_append.1 hp with hp | hp
              · exact HI.out.wy p hp
              · exact (HI.out.waits hh3 p hp).1
            have HR5 : Hid (∀ j, j < 3 → h ≠ j → RI h j T5) := fun j hj hne => by rw [HT5.out]; exact HI.out.round hh3 hj hne
            have HD5 : Hid (∀ i, i < 3 → i < k → Dn i T5) := fun i h1 h2 => by rw [HT5.out]; exact HD.out i h1 h2
            have HL5 : Hid (T5.way.length ≤ 3400160 ∧ ∀ q, (T5.sn q).length ≤ 17000) := ⟨by rw [HTW.out, List.length_append]; have := HPl.out; omega, fun q => by rw [HT5.out]; exact HL.out.2 q⟩
            have v1 : V.cell? ⟨n0, 1, none⟩ = some (.slice a7 ml c7) := by have := HM5.out.reads.2.1; rw [HTW.out, List.length_append, ← Hml.out] at this; exact this
            have hml : ml ≤ 3400160 := by rw [Hml.out]; have := HPl.out; omega
            have HMs : Hid (ms T5.way ≤ 2 * ml) := by rw [HTW.out]; have := ms_le (l ++ ps); rw [List.length_append] at this; rw [Hml.out]; exact this
            rw [← hV]
            rw [← Hml.out]
            clear hV s1 f1 r7 rf7 HO7 K7
            go_wp2_with fail
            go_loopw [4, 8] (fun s u w8 => ∃ n : Nat, ∃ T : Tk, s = .bool true ∧ u = .int .i64 n ∧ n ≤ 6800329 ∧ Hid (TkAt n0 w8 n0 T) ∧ Hid (TkI T) ∧ Hid (T.way.length ≤ 3400160 ∧ ∀ q, (T.sn q).length ≤ 17000) ∧ Hid (∀ i, i < 3 → i < k → Dn i T) ∧ Hid (∀ j, j < 3 → h ≠ j → RI h j T) ∧ Hid (ms T.way + 9 ≤ n) ∧ Hid (Kept Nil w w8)) (fun _ u _ => (intOf u).toNat)
            case atStart => exact ⟨2 * ml + 9, T5, rfl, by go_num, by omega, ⟨_, HM5.out⟩, HI5.out, HL5.out, HD5.out, HR5.out, (by have := HMs.out; show ms T5.way + 9 ≤ _; omega), HK5.out⟩
            case round =>
              obtain ⟨n, T6, rfl, rfl, hnn, HA6, HI6, HL6, HD6, HR6, HMs6, HK6⟩ := hrel
              obtain ⟨w8, hw8⟩ : ∃ x : World, x = wr := ⟨_, rfl⟩
              rw [← hw8] at HA6 HK6 ⊢
              clear hw8 HM5 HI5 HL5 HD5 HR5 HMs HK5 v1
              obtain ⟨M6, hM6⟩ := HA6.out
              have r6 := hM6.reads.2.1
              obtain ⟨N, HN⟩ : ∃ N, Hid (N = T6.way.length) := ⟨_, rfl⟩
              rw [← HN.out] at r6
              clear hM6
              have hn9 : 9 ≤ n := by have := HMs6.out; omega
              rcases Nat.eq_zero_or_pos N with hN | hN
              · subst hN
                have hw0 : T6.way = [] := List.length_eq_zero_iff.1 HN.out.symm
                have HDh : Hid (Dn h T6) := RI.done HR6.out hw0
                have HDk : Hid (∀ i, i < 3 → i < k + 1 → Dn i T6) := fun i h1 h2 => by
                  by_cases e : i < k
                  · exact HD6.out i h1 e
                  · have e2 : i = h := by have := Hh.out; omega
                    rw [e2]; exact HDh.out
                have HLe : Hid (Lm T6) := ⟨by rw [hw0]; simp, HL6.out.2⟩
                clear hw0
                go_wp2
                go_roundw
                case rel => exact ⟨k + 1, T6, by omega, rfl, by go_num, HA6.out, HI6.out, HLe.out, HDk.out, HK6.out⟩
                case measure => simp [intOf]; omega
              · have hNi : (0 : Int) < (N : Int) := by omega
                have HzT : Hid (0 < T6.way.length) := by rw [← HN.out]; exact hN
                have OF := toff_any n0 n0 0 T6 w8 HA6.out HzT.out (by have := HL6.out.1; omega)
                rw [show ((0 : Nat) : Int) = 0 from rfl] at OF
                obtain ⟨y, HY⟩ : ∃ y : Pk, Hid (y = T6.way[0]'HzT.out) := ⟨T6.way[0]'HzT.out, (rfl : T6.way[0]'HzT.out = T6.way[0]'HzT.out)⟩
                rw [← HY.out] at OF
                unfold pkV at OF
                obtain ⟨T7, HT7⟩ : ∃ t : Tk, Hid (t = { T6 with way := T6.way.eraseIdx 0 }) := ⟨_, rfl⟩
                rw [← HT7.out] at OF
                have HWc : Hid (T6.way = y :: T7.way) := by
                  show _ = _
                  rw [HT7.out, HY.out]
                  exact head_erase HzT.out
                obtain ⟨i', j', hi', hj', hij', g1, g2, g3, g4, g5⟩ := HI6.out.wy y (by rw [HWc.out]; exact List.mem_cons_self)
                have HG : Hid (i' < 3 ∧ j' < 3 ∧ i' ≠ j' ∧ y.fr = (i' : Int) + 1 ∧ y.ds = (j' : Int) + 1 ∧ 1 ≤ y.nu ∧ (y.ak = true → y.nu ≤ (T6.cm (4 * j' + i')).length) ∧ (y.ak = false → y.nu ≤ (T6.sn (4 * i' + j')).length ∧ (T6.sn (4 * i' + j'))[y.nu.toNat - 1]? = some y.bd)) := ⟨hi', hj', hij', g1, g2, g3, g4, g5⟩
                have HNu : Hid (y.nu ≤ 1000000) := by
                  show y.nu ≤ 1000000
                  rcases Bool.eq_false_or_eq_true y.ak with hak | hak
                  · have h1 := g4 hak
                    have h2 := (HI6.out.le (4 * j' + i') (by omega)).2.1
                    have h3 := HL6.out.2 (4 * j' + i')
                    omega
                  · have h1 := (g5 hak).1
                    have h3 := HL6.out.2 (4 * i' + j')
                    omega
                clear hi' hj' hij' g1 g2 g3 g4 g5
                go_wp2_with fail
                go_fit OF
                rintro e w9 ⟨rfl, t9, k9⟩
                have HA9 : Hid (TkAt n0 w9 n0 T7) := t9
                have HK9 : Hid (Kept Nil w w9) := HK6.out.newG k9 HNw.out
                have HI7 : Hid (TkI T7) := by rw [HT7.out]; exact HI6.out.cut 0
                have HL7 : Hid (T7.way.length + 1 ≤ 3400160) := by have := HL6.out.1; rw [HWc.out, List.length_cons] at this; exact this
                have HZ7 : Hid (∀ q, (T7.sn q).length ≤ 1000000) := fun q => by rw [HT7.out]; have := HL6.out.2 q; show (T6.sn q).length ≤ _; omega
                clear OF t9 k9 r6
                go_upto_region 22 with fail
                obtain ⟨W3, hW3⟩ : ∃ W, W = w9.alloc (.cells #[.int .i64 y.fr, .int .i64 y.ds, .int .i64 y.nu, .bool y.ak, .string (bs y.bd)] 34) := ⟨_, rfl⟩
                have K3 : Hid (Kept Nil w9 W3) := by rw [hW3]; exact (Kept.refl _ _).alloc _
                have HB3 : Hid (W3.heap[w9.heap.size]? = some (.cells #[.int .i64 y.fr, .int .i64 y.ds, .int .i64 y.nu, .bool y.ak, .string (bs y.bd)] 34 (0, 0))) := by rw [hW3]; exact blk_new _ _
                rw [← hW3]
                clear hW3
                have u0 := blk_at HB3.out 0 rfl
                have u1 := blk_at HB3.out 1 rfl
                have u2 := blk_at HB3.out 2 rfl
                have u3 := blk_at HB3.out 3 rfl
                have u4 := blk_at HB3.out 4 rfl
                have hn0 : (0 : Int) < (n : Int) := by omega
                have CM := tcomes_any n0 n0 i' j' T7 y W3 (by obtain ⟨M2, h2⟩ := HA9.out; exact ⟨M2, h2.kept K3.out⟩) HI7.out HG.out.1 HG.out.2.1 HG.out.2.2.1 HG.out.2.2.2.1 HG.out.2.2.2.2.1 HG.out.2.2.2.2.2.1 HNu.out HZ7.out (by have := HL7.out; omega)
                unfold pkV at CM
                obtain ⟨T8, HT8⟩ : ∃ t : Tk, Hid (t = T7.come i' j' y) := ⟨_, rfl⟩
                rw [← HT8.out] at CM
                have HI8 : Hid (TkI T8) := by
                  rw [HT8.out]
                  refine HI7.out.come HG.out.1 HG.out.2.1 HG.out.2.2.1 HG.out.2.2.2.1 HG.out.2.2.2.2.2.1 ?_ ?_
                  · rw [HT7.out]; exact HG.out.2.2.2.2.2.2.1
                  · rw [HT7.out]; exact HG.out.2.2.2.2.2.2.2
                have HE7 : Hid (T7 = { T6 with way := T7.way }) := by show _ = _; rw [HT7.out]
                have HR8 : Hid (∀ j, j < 3 → h ≠ j → RI h j T8) := fun j hj hne => by
                  rw [HT8.out, HE7.out]
                  exact RI.step HI6.out hh3 hj hne HWc.out (HR6.out j hj hne) HG.out.1 HG.out.2.1 HG.out.2.2.2.1 HG.out.2.2.2.2.1 HG.out.2.2.2.2.2.1 HG.out.2.2.2.2.2.2.1
                have HD8 : Hid (∀ i, i < 3 → i < k → Dn i T8) := fun i h1 h2 => by
                  rw [HT8.out]
                  refine Dn.step h1 ?_ (by rw [← HT8.out]; exact HI8.out)
                  rw [HT7.out]
                  exact HD6.out i h1 h2
                have HL8 : Hid (T8.way.length ≤ 3400160 ∧ ∀ q, (T8.sn q).length ≤ 17000) := ⟨by rw [HT8.out]; have := come_len T7 i' j' y; have := HL7.out; omega, fun q => by rw [HT8.out, HT7.out]; exact HL6.out.2 q⟩
                have HM8 : Hid (ms T8.way + 9 ≤ n - 1) := by
                  have h1 := HMs6.out
                  have h2 := ms_step y T7.way ((j' + 1 : Nat) : Int) (T7.os j' (i' + 1))
                  rw [HWc.out] at h1
                  have h3 : T8.way = T7.way ++ rcvA ((j' + 1 : Nat) : Int) (T7.os j' (i' + 1)) y := by rw [HT8.out]; rfl
                  show ms T8.way + 9 ≤ n - 1
                  rw [h3]
                  omega
                go_wp2_with fail
                go_fit CM
                rintro e w10 ⟨rfl, t10, k10⟩
                have HA10 : Hid (TkAt n0 w10 n0 T8) := t10
                have HK10 : Hid (Kept Nil w w10) := (HK9.out.trans K3.out).newG k10 HNw.out
                clear CM t10 k10 u0 u1 u2 u3 u4
                go_wp2
                go_roundw
                case rel => exact ⟨n - 1, T8, rfl, by go_num, by omega, HA10.out, HI8.out, HL8.out, HD8.out, HR8.out, HM8.out, HK10.out⟩
                case measure => simp [intOf]; omega
          · obtain rfl : k = 6 := by omega
            have HDa : Hid (∀ i, i < 3 → Dn i T) := fun i hi => HD.out i hi (by omega)
            go_wp2
            go_meet
            exact ⟨rfl, ⟨T, HA.out, HI.out, HL.out, HDa.out⟩, HK.out⟩
      case rest =>
        obtain ⟨rfl, HX4, HK4⟩ := hcut
        rename World => w4
        clear HX3 HK3
        obtain ⟨T, hA, hI, hL, hD⟩ := HX4.out
        have HI : Hid (TkI T) := hI
        have HL : Hid (Lm T) := hL
        have HEn := hI.end hD
        have HE1 : Hid (∀ k, k < 16 → (T.cm k).length = (T.sn k).length) := HEn.1
        have HE2 : Hid (∀ i, i < 3 → pksTo (((i + 1 : Nat) : Int)) (T.os i) 10 = []) := HEn.2
        obtain ⟨M, hM⟩ := hA
        have HM : Hid (TkM n0 w4 n0 T M) := hM
        clear hI hL hD HEn hM HX4
        go_upto_block 6 with fail
        go_cut [] (fun wc => Hid (Kept Nil w4 wc))
        case first =>
          go_wp2_with fail
          go_loopw [10] (fun u wr => ∃ k : Nat, k ≤ 16 ∧ u = .int .i64 k ∧ Hid (Kept Nil w4 wr)) (fun u _ => 16 - (intOf u).toNat)
          case atStart => exact ⟨0, by omega, rfl, Kept.refl _ _⟩
          case round =>
            obtain ⟨k, hk, rfl, HKr⟩ := hrel
            by_cases hlt : k < 16
            · have hki : (k : Int) < 16 := by omega
              obtain ⟨-, -, r2, r3, -, -, -⟩ := (HM.out.kept HKr.out).reads
              have c2 := r2 k hlt
              have c3 := r3 k hlt
              rw [← HE1.out k hlt] at c2
              generalize (T.cm k).length = L at c2 c3
              clear r2 r3
              have hbn : ((L : Int) != (L : Int)) = false := by simp
              have hbe : ((L : Int) == (L : Int)) = true := by simp
              go_upto_region 28 with fail
              go_quiet (fail)
              go_wp2
              go_roundw
              case rel => exact ⟨k + 1, by omega, by go_num, HKr.out.drewN _⟩
              case measure => simp [intOf]; omega
            · obtain rfl : k = 16 := by omega
              go_wp2
              go_meet
              exact HKr.out
        case rest =>
          have KC := hcut
          rename World => w5
          have RT := tright_any n0 n0 T w5 ⟨M, HM.out.kept KC.out⟩ HI.out (fun q => by have := HL.out.2 q; omega)
          have HK5 : Hid (Kept Nil w w5) := HK4.out.trans KC.out
          go_wp2_with fail
          go_fit RT
          rintro e w6 ⟨rfl, ⟨M6, hM6⟩, k6⟩
          have HK6 : Hid (Kept Nil w w6) := HK5.out.newG k6 HNw.out
          have HM6 : Hid (TkM n0 w6 n0 T M6) := hM6
          have HPK : Hid (∀ i, i < 3 → ∀ X, Kept Nil w6 X → Calls Try.prog 8 #[.pointer (some ⟨M6.rb i, 0, none⟩)] X fun e w' => ∃ a c, e = .returned (.slice a 0 c) ∧ Kept Nil X w') := fun i hi X kX => by
            refine (packets_any _ _ _ _ _ _ X ((HM6.out.rl i hi).kept kX) (HI.out.fits hi (fun q => by have := HL.out.2 q; omega))).mono ?_
            rintro e w' ⟨a, c, h1, _, h3⟩
            rw [HE2.out i hi] at h1
            exact ⟨a, c, h1, h3⟩
          have RD : Hid (∀ X, Kept Nil w6 X → X.cell? ⟨n0, 0, none⟩ = some (.slice (some ⟨M6.hb, 0, none⟩) 3 M6.hc) ∧ X.cell? ⟨M6.hb, 0, none⟩ = some (.pointer (some ⟨M6.rb 0, 0, none⟩)) ∧ X.cell? ⟨M6.hb, 1, none⟩ = some (.pointer (some ⟨M6.rb 1, 0, none⟩)) ∧ X.cell? ⟨M6.hb, 2, none⟩ = some (.pointer (some ⟨M6.rb 2, 0, none⟩))) := fun X kX => by
            obtain ⟨r0, -, -, -, -, -, rh⟩ := (HM6.out.kept kX).reads
            exact ⟨r0, rh 0 (by omega), rh 1 (by omega), rh 2 (by omega)⟩
          have hhl := HM6.out.hl
          obtain ⟨x0, x1, -, -⟩ := RD.out w6 (Kept.refl _ _)
          have P0 := HPK.out 0 (by omega) w6 (Kept.refl _ _)
          clear RT hM6 k6
          go_wp2_with fail
          go_fit P0
          rintro e w7 ⟨a7, c7, rfl, k7⟩
          have HK7 : Hid (Kept Nil w6 w7) := k7
          obtain ⟨y0, -, y1, -⟩ := RD.out w7 k7
          have P1 := HPK.out 1 (by omega) w7 k7
          clear P0 k7 x0 x1
          go_wp2_with fail
          go_fit P1
          rintro e w8 ⟨a8, c8, rfl, k8⟩
          have HK8 : Hid (Kept Nil w6 w8) := HK7.out.trans k8
          obtain ⟨z0, -, -, z2⟩ := RD.out w8 HK8.out
          have P2 := HPK.out 2 (by omega) w8 HK8.out
          clear P1 k8 y0 y1
          go_wp2_with fail
          go_fit P2
          rintro e w9 ⟨a9, c9, rfl, k9⟩
          have HK9 : Hid (Kept Nil w w9) := (HK6.out.trans HK8.out).trans k9
          clear P2 k9 z0 z2
          go_wp2
          go_ret
          exact ⟨rfl, HK9.out⟩
end Go.Proofs.Ytmlncfnnldplgaa
