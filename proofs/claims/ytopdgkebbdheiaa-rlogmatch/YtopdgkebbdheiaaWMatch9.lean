/-
  RlogMatch, walked.
-/
import Derived.Test.YtopdgkebbdheiaaWLog9
import Derived.Test.YtopdgkebbdheiaaWMatch6
import Derived.Test.YtopdgkebbdheiaaWMatch7
import Derived.Test.YtopdgkebbdheiaaWMatch8
import Derived.Test.YtopdgkebbdheiaaWMatch1
import Derived.Deep.CutBlock
import Derived.Test.YtopdgkebbdheiaaWMatch2
import Derived.Test.YtopdgkebbdheiaaWMatch0
namespace Go.Proofs.Ytopdgkebbdheiaa
open Go.RowKit

def e11 : En := ⟨1, 1, 0, []⟩
theorem ent_one (w : World) : EntRow (w.heap.size + 1) (w.alloc (.cells #[.int .i64 1, .int .i64 1, .int .i64 0, .string ⟨#[]⟩] 57)) (some ⟨w.heap.size, 0, none⟩) [e11] := by
  intro j hj
  obtain rfl : j = 0 := by simpa using hj
  have hb := blk_new w (.cells #[.int .i64 1, .int .i64 1, .int .i64 0, .string ⟨#[]⟩] 57)
  refine ⟨_, rfl, Nat.lt_succ_self _, ?_, ?_, ?_, ?_, by simp [e11]⟩
  · exact blk_at hb 0 rfl
  · exact blk_at hb 1 rfl
  · exact blk_at hb 2 rfl
  · exact blk_at hb 3 rfl
theorem own_no {B c : Nat} {w : World} {ao : Option Addr} {es : List En} (h : OwnEs B w ao c es) : ao = none → es = [] ∧ c = 0 := fun e => by
  subst e
  rcases h.2 with ⟨h1, h2⟩ | ⟨g, cap, cur, h1, _⟩
  · simp only [Value.slice.injEq] at h1
    exact ⟨List.eq_nil_of_length_eq_zero h2, h1.2.2⟩
  · simp at h1
theorem ext_one : ext 0 0 [] 0 0 [e11] = ([e11], 1, 1, 0) := rfl

set_option maxRecDepth 100000 in
set_option maxHeartbeats 40000000 in
theorem rlogMatch_walk (B c1 c2 : Nat) (so oo : Option Addr) (zs ys : List Int) (share from' many : Int) (w : World) (h1 : IntRow B w so zs) (h2 : IntRow B w oo ys) (hl1 : (zs.length : Int) ≤ 16384) (hl2 : (ys.length : Int) ≤ 16384) :
    Calls Try.prog 5 #[.slice so zs.length c1, .slice oo ys.length c2, .int .i64 share, .int .i64 from', .int .i64 many] w fun e w' => e = .returned (.bool true) ∧ Kept Nil w w' := by
  obtain ⟨i0, hi, hz0, hz1, hz2⟩ := info_parts Try.infoEn
  have HR : Hid (IntRow B w so zs ∧ IntRow B w oo ys) := ⟨h1, h2⟩
  have EX1 := extend_any (w.heap.size + 1) 0 1 0 0 0 0 none (some ⟨w.heap.size, 0, none⟩) [] [e11] _ (entRow_nil _ _ _) (ent_one w) (fun _ => ⟨rfl, rfl⟩) (fun h => by simp at h) (by omega) (by simp) (by simp) (by simp) (by simp) (by omega) (fun e he => by simp at he; subst he; simp [e11])
  rw [ext_one] at EX1
  simp only [List.length_cons, List.length_nil, Nat.zero_add] at EX1
  have hd1 : decide ((16384 : Int) < zs.length) = false := by simp; omega
  have hd2 : decide ((16384 : Int) < ys.length) = false := by simp; omega
  clear h1 h2
  go_enter Try.func5, Try.ntmps5
  go_wp2_with fail
  refine EX1.mono ?_
  rintro e w1 ⟨ao1, c1', rfl, _, k1⟩
  have K1 : Hid (Kept Nil w w1) := ((Kept.refl _ _).alloc _).trans k1
  clear k1 EX1
  go_wp2_with fail
  refine (grown_any B c1 so zs _ (HR.out.1.nil (K1.out.alloc _)) hl1).mono ?_
  rintro e w2 ⟨L, lo, cl, rfl, oL, lL, k2⟩
  have K2 : Hid (Kept Nil w w2) := (K1.out.alloc _).trans k2
  have HL : Hid (EntRow w2.heap.size w2 lo L) := oL.row (fun e he => by rw [lL.dt e he]; unfold maxLen; omega)
  have HLN : Hid (lo = none → L = [] ∧ cl = 0) := own_no oL
  have HLC : Hid (L.length ≤ cl) := own_capE oL
  have hfew := lL.few
  have HLL : Hid (Lead L) := lL
  clear k2 oL lL K1 hd1 hd2
  obtain ⟨k, hk⟩ : ∃ k : Nat, share % ((L.length : Int) + 1) = k := ⟨(share % ((L.length : Int) + 1)).toNat, by have := Int.emod_nonneg share (show (L.length : Int) + 1 ≠ 0 by omega); omega⟩
  have hk1 : k ≤ L.length := by have := Int.emod_lt_of_pos share (show 0 < (L.length : Int) + 1 by omega); omega
  have P1 := fun w' => pick_any share ((L.length : Int) + 1) w' (by omega) (by omega)
  rw [hk] at P1
  clear hk
  go_wp2_with fail
  refine (P1 _).mono ?_
  rintro e w3 ⟨rfl, rfl⟩
  clear P1
  have hkc : (k : Int) ≤ cl := by have := HLC.out; omega
  have HS1 : Hid (Src Try.prog 4 51 (.slice lo k cl) k (enCells (L.take k)) w3) := by
    have h := (HL.out.take k).src (c := cl)
    rwa [List.length_take, Nat.min_eq_left hk1] at h
  have HL1 : Hid (0 + k ≤ maxLen ∧ (0 + k) * 40 ≤ 140737488355328) := by constructor <;> (try unfold maxLen) <;> omega
  go_upto_block 0 with (first | (at_builtin; go_must (refine wpList_append_src _ rfl _ _ 51 51 rfl w3.heap.size 57 i0 (.agg #[.int .i64 0, .int .i64 0, .int .i64 0, .string ⟨#[]⟩]) 4 40 Try.underlying51 hi hz0 hz1 hz2 rfl (.slice none 0 0) 0 [] rfl (World.ownsRow_nil _ _ _ _) (.slice lo k cl) k (enCells (L.take k)) rfl HS1.out HL1.out.1 HL1.out.2 (Nat.le_refl _) ?_); intro ao4 c4 w4 ho4 hg4; have HO4 : Hid (w4.ownsRow w3.heap.size 57 4 (.slice ao4 k c4) k (enCells (L.take k))) := (by rw [Nat.zero_add, List.nil_append] at ho4; exact ho4); have HK4 : Hid (Kept Nil w3 w4) := (Kept.refl _ _).grown hg4 (fun k hk => by simp [Value.ownBlock] at hk); rw [Nat.zero_add]; clear ho4 hg4))
  go_cut [17, 18, 19] from 30 (fun v _ _ wr => ∃ (O : List En) (ao : Option Addr) (c m : Nat), m ≤ 60 ∧ v = .slice ao m c ∧ Hid ((L.take k ++ O).length = m) ∧ Hid (OwnEs w3.heap.size wr ao c (L.take k ++ O)) ∧ Hid (∀ e ∈ O, 100 ≤ e.tm ∧ e.dt.length = 3) ∧ Hid (Kept Nil w3 wr))
  case first =>
    go_wp2_with fail
    go_loopw [17, 18, 19] (fun v t i wr => ∃ (O : List En) (ao : Option Addr) (c j tt : Nat), j ≤ 20 ∧ j ≤ ys.length ∧ i = .int .i64 j ∧ t = .int .i64 tt ∧ 100 ≤ tt ∧ tt ≤ 100 + j ∧ v = .slice ao (k + j) c ∧ Hid (O.length = j) ∧ Hid (wr.ownsRow w3.heap.size 57 4 (.slice ao (k + j) c) (k + j) (enCells (L.take k ++ O))) ∧ Hid (∀ e ∈ O, 100 ≤ e.tm ∧ e.dt.length = 3) ∧ Hid (Kept Nil w3 wr)) (fun _ _ i _ => 20 - (intOf i).toNat)
    case atStart => exact ⟨[], ao4, c4, 0, 100, by omega, by omega, rfl, rfl, by omega, by omega, rfl, rfl, (by show World.ownsRow _ _ _ _ _ _ _; rw [List.append_nil]; exact HO4.out), (fun e he => by simp at he), HK4.out⟩
    case round =>
      obtain ⟨O, ao, c, j, tt, hj20, hjy, rfl, rfl, ht1, ht2, rfl, HOJ, HO, HOT, HK⟩ := hrel
      by_cases hlt : j < ys.length ∧ j < 20
      · obtain ⟨hlt1, hlt2⟩ := hlt
        obtain ⟨a, rfl, _, hcell⟩ := (HR.out.2.nil (K2.out.trans HK.out)) j hlt1
        have hi1 : (j : Int) < ys.length := by omega
        have hi2 : (j : Int) < 20 := by omega
        have hx1 := Int.emod_nonneg ys[j] (show (2 : Int) ≠ 0 by omega)
        have hx2 := Int.emod_lt_of_pos ys[j] (show (0 : Int) < 2 by omega)
        generalize ys[j] = z at *
        obtain ⟨x, hx⟩ : ∃ x : Nat, z % 2 = (x : Int) := ⟨(z % 2).toNat, by omega⟩
        have PK := fun w' => pick_any z 2 w' (by decide) (by decide)
        rw [hx] at PK hx2
        clear hx hx1
        go_wp2_with fail
        refine (PK _).mono ?_
        rintro e w1 ⟨rfl, rfl⟩
        have ho := HO.out
        have HSRC : Hid (Src Try.prog 4 51 (.slice (some ⟨w1.heap.size, 0, none⟩) 1 1) 1 [.int .i64 ((k : Int) + 1 + j), .int .i64 ((tt : Int) + x), .int .i64 1, .string (bs [111, 119, 110])] (w1.alloc (.cells #[.int .i64 ((k : Int) + 1 + j), .int .i64 ((tt : Int) + x), .int .i64 1, .string (bs [111, 119, 110])] 57))) := src_en (w := w1) ⟨(k : Int) + 1 + j, (tt : Int) + x, 1, [111, 119, 110]⟩
        have HLZ : Hid (k + j + 1 ≤ maxLen ∧ (k + j + 1) * 40 ≤ 140737488355328) := by
          constructor
          · unfold maxLen; omega
          · omega
        have HS : Hid (∀ e ∈ O ++ [En.mk ((k : Int) + 1 + j) ((tt : Int) + x) 1 [111, 119, 110]], 100 ≤ e.tm ∧ e.dt.length = 3) := by
          intro e he
          rcases List.mem_append.1 he with he | he
          · exact HOT.out e he
          · rw [List.mem_singleton.1 he]; exact ⟨by simp only []; omega, rfl⟩
        go_wp2_with (first | (at_builtin; go_must (refine wpList_append_src _ rfl _ _ 51 51 rfl w3.heap.size 57 i0 (.agg #[.int .i64 0, .int .i64 0, .int .i64 0, .string ⟨#[]⟩]) 4 40 Try.underlying51 hi hz0 hz1 hz2 rfl _ _ _ rfl (ho.alloc _) (.slice (some ⟨w1.heap.size, 0, none⟩) 1 1) 1 [.int .i64 ((k : Int) + 1 + j), .int .i64 ((tt : Int) + x), .int .i64 1, .string (bs [111, 119, 110])] rfl HSRC.out HLZ.out.1 HLZ.out.2 (le_alloc HK.out.size _) ?_); intro ao' c' w5 ho' hg'; have HK2 : Hid (Kept Nil w3 w5) := (HK.out.alloc _).grown hg' (own_row ho); clear hg'))
        go_roundw
        case rel => exact ⟨O ++ [En.mk ((k : Int) + 1 + j) ((tt : Int) + x) 1 [111, 119, 110]], ao', c', j + 1, tt + x, by omega, by omega, by go_num, by go_num, by omega, by omega, rfl, (by show _ = _; rw [List.length_append, HOJ.out]; rfl), (by show World.ownsRow _ _ _ _ _ _ _; rw [← List.append_assoc, enCells_append]; exact ho'), HS.out, HK2.out⟩
        case measure => simp [intOf]; omega
      · have hlt3 : ¬ ((j : Int) < ys.length ∧ (j : Int) < 20) := by omega
        have HML : Hid ((L.take k ++ O).length = k + j) := by show _ = _; rw [List.length_append, List.length_take, Nat.min_eq_left hk1, HOJ.out]
        have HOM : Hid (OwnEs w3.heap.size wr ao c (L.take k ++ O)) := by show World.ownsRow _ _ _ _ _ _ _; rw [HML.out]; exact HO.out
        by_cases hlt4 : j < ys.length
        · have hlt5 : decide ((j : Int) < ys.length) = true := by simp; omega
          have hlt6 : decide ((j : Int) < 20) = false := by simp; omega
          go_wp2_with fail
          (try dsimp only)
          go_meet
          exact ⟨O, ao, c, k + j, by omega, rfl, HML.out, HOM.out, HOT.out, HK.out⟩
        · have hlt5 : decide ((j : Int) < ys.length) = false := by simp; omega
          go_wp2_with fail
          (try dsimp only)
          go_meet
          exact ⟨O, ao, c, k + j, by omega, rfl, HML.out, HOM.out, HOT.out, HK.out⟩
  case rest =>
    obtain ⟨O, ao, c, m, hm60, rfl, HML, HOM, HOT, HK⟩ := hcut
    clear HS1 HL1 HO4 HK4
    rename World => w5
    have HT : Hid (Two L O k) := ⟨hk1, fun e he => (HLL.out.tm e he).2, fun e he => (HOT.out e he).1⟩
    have HRM : Hid (EntRow w5.heap.size w5 ao (L.take k ++ O)) := HOM.out.row (fun e he => by
      rcases List.mem_append.1 he with he | he
      · rw [HLL.out.dt e (List.mem_of_mem_take he)]; unfold maxLen; omega
      · rw [(HOT.out e he).2]; unfold maxLen; omega)
    have HRL : Hid (EntRow w5.heap.size w5 lo L) := (HL.out.nil HK.out).full
    have HNM : Hid (ao = none → L.take k ++ O = [] ∧ c = 0) := own_no HOM.out
    have HCM : Hid (m ≤ c) := by show _ ≤ _; rw [← HML.out]; exact own_capE HOM.out
    obtain ⟨p, hp⟩ : ∃ p : Nat, from' % ((L.length : Int) + 1) = p := ⟨(from' % ((L.length : Int) + 1)).toNat, by have := Int.emod_nonneg from' (show (L.length : Int) + 1 ≠ 0 by omega); omega⟩
    have hp1 : p ≤ L.length := by have := Int.emod_lt_of_pos from' (show 0 < (L.length : Int) + 1 by omega); omega
    obtain ⟨n, hn⟩ : ∃ n : Nat, many % ((L.length : Int) - p + 1) = n := ⟨(many % ((L.length : Int) - p + 1)).toNat, by have := Int.emod_nonneg many (show (L.length : Int) - p + 1 ≠ 0 by omega); omega⟩
    have hn1 : p + n ≤ L.length := by have := Int.emod_lt_of_pos many (show 0 < (L.length : Int) - p + 1 by omega); omega
    have P2 := fun w' => pick_any from' ((L.length : Int) + 1) w' (by omega) (by omega)
    have P3 := fun w' => pick_any many ((L.length : Int) - p + 1) w' (by omega) (by omega)
    rw [hp] at P2
    rw [hn] at P3
    clear hp hn
    go_wp2_with fail
    refine (P2 _).mono ?_
    rintro e w6 ⟨rfl, rfl⟩
    go_wp2_with fail
    refine (P3 _).mono ?_
    rintro e w6 ⟨rfl, rfl⟩
    obtain ⟨w6, hw6⟩ : ∃ w6, w6 = w5.alloc (.cells #[.int .i64 0, .int .i64 0, .slice ao m c] 53) := ⟨_, rfl⟩
    have HB6 : Hid (w6.heap[w5.heap.size]? = some (.cells #[.int .i64 0, .int .i64 0, .slice ao m c] 53 (0, 0))) := by show _ = _; rw [hw6]; exact blk_new _ _
    have HK6 : Hid (Kept Nil w5 w6) := by show Kept _ _ _; rw [hw6]; exact (Kept.refl _ _).alloc _
    rw [← hw6]
    clear hw6
    have c0 : True := trivial
    have c1x : True := trivial
    have c2x : True := trivial
    have l6 : True := trivial
    have g0 : True := trivial
    have g1 : True := trivial
    have g2 : True := trivial
    have TQ := fun w' (hk : Kept Nil w5 w') => termOf_any w5.heap.size cl p lo L w' (HRL.out.nil hk) hp1 (by omega)
    obtain ⟨t, ht⟩ : ∃ t, t = tmAt 0 L p := ⟨_, rfl⟩
    have HNS : Hid (((L.drop p).take n).length = n) := by show _ = _; simp; omega
    obtain ⟨⟨M', mt, fs, lk⟩, hr⟩ : ∃ r, r = ext 0 0 (L.take k ++ O) p (tmAt 0 L p) ((L.drop p).take n) := ⟨_, rfl⟩
    have HE : Hid ((M', mt, fs, lk) = ext 0 0 (L.take k ++ O) p (tmAt 0 L p) ((L.drop p).take n)) := hr
    have EQ0 := fun bo d w' (hk : Kept Nil w5 w') (hr2 : EntRow w5.heap.size w5 bo ((L.drop p).take n)) (hno : bo = none → (L.drop p).take n = [] ∧ d = 0) (hd : ((L.drop p).take n).length ≤ d) => extend_any w5.heap.size c d 0 0 (p : Int) (tmAt 0 L p) ao bo (L.take k ++ O) ((L.drop p).take n) w' (HRM.out.nil hk) (hr2.nil hk) HNM.out hno (by omega) (by rw [HML.out]; omega) (by rw [HNS.out]; omega) (by rw [HML.out]; exact HCM.out) hd (by omega) (fun e he => by have := HLL.out.ix e (List.mem_of_mem_drop (List.mem_of_mem_take he)); omega)
    rw [← hr, HML.out, HNS.out, ← ht] at EQ0
    simp only [] at EQ0
    rw [← ht] at TQ
    clear hr ht P2 P3
    have hwq : IntKind.i64.wrap ((p : Int) + (n : Int)) = (p : Int) + n := by rw [IntKind.wrap_i64]; omega
    go_upto_region 19 with fail
    go_cut [23, 24, 25, 26] from 30 (fun r u1 u2 u3 wx => ∃ (g : Nat) (ao' : Option Addr) (c' : Nat), r = .pointer (some ⟨g, 0, none⟩) ∧ u1 = .int .i64 mt ∧ u2 = .int .i64 fs ∧ u3 = .int .i64 lk ∧ Hid (wx.heap[g]? = some (.cells #[.int .i64 0, .int .i64 0, .slice ao' M'.length c'] 53 (0, 0))) ∧ Hid (OwnEs w5.heap.size wx ao' c' M') ∧ Hid (wx.heap[w5.heap.size]? = some (.cells #[.int .i64 0, .int .i64 0, .slice ao m c] 53 (0, 0))) ∧ Hid (Kept Nil w5 wx))
    case first =>
      by_cases hpc : p = cl
      · obtain rfl : n = 0 := by have := HLC.out; omega
        cases lo with
        | none =>
          have EQ := fun w' (hk : Kept Nil w5 w') => EQ0 none 0 w' hk (by rw [List.take_zero]; exact entRow_nil _ _ _) (fun _ => ⟨List.take_zero, rfl⟩) (by simp)
          clear EQ0
          subst hpc
          refine reg_cn L.length c m p ao M' t mt fs lk w5 w6 _ _ _ _ _ _ _ _ _ _ _ _ _ _ _ _ _ _ _ _ _ _ _ _ _ _ _ _ _ _ _ _ _ _ _ _ _ _ _ _ _ _ _ _ _ _ _ _ _ _ _ _ _ _ _ _ _ _ _ _ _ _ _ _ _ _ _ _ _ _ _ _ _ _ _ _ _ _ _ _ _ _ _ _ _ _ _ _ _ _ _ _ _ _ _ _ _ _ _ _ _ _ _ _ _ _ _ _ _ _ _ _ _ _ _ _ _ _ _ _ _ _ _ _ _ _ _ _ _ _ _ _ _ _ _ _ _ _ _ _ _ _ _ _ _ _ _ _ _ _ _ _ _ _ _ _ _ _ _ _ _ _ _ _ _ _ _ _ _ _ _ _ _ _ _ _ _ _ _ _ _ _ _ _ _ _ _ _ _ _ _ _ _ _ _ _ _ _ _ _ _ _ _ _ _ _ _ _ _ _ _ _ _ _ _ _ _ _ _ _ ?_ TQ EQ HB6 HK6 (by omega)
          intro t103 t104 t105 t106 t107 t108 t109 t110 t111 t112 t113 t114 t115 t116 t117 t118 t119 g ao' c' wx h1 h2 h3 h4
          (try dsimp only)
          go_wp2
          go_meet
          exact ⟨g, ao', c', rfl, rfl, rfl, rfl, h1, h2, h3, h4⟩
        | some la =>
          have EQ := fun w' (hk : Kept Nil w5 w') => EQ0 (some la) 0 w' hk (by rw [List.take_zero]; exact entRow_nil _ _ _) (fun _ => ⟨List.take_zero, rfl⟩) (by simp)
          clear EQ0
          subst hpc
          refine reg_cs L.length c m p la ao M' t mt fs lk w5 w6 _ _ _ _ _ _ _ _ _ _ _ _ _ _ _ _ _ _ _ _ _ _ _ _ _ _ _ _ _ _ _ _ _ _ _ _ _ _ _ _ _ _ _ _ _ _ _ _ _ _ _ _ _ _ _ _ _ _ _ _ _ _ _ _ _ _ _ _ _ _ _ _ _ _ _ _ _ _ _ _ _ _ _ _ _ _ _ _ _ _ _ _ _ _ _ _ _ _ _ _ _ _ _ _ _ _ _ _ _ _ _ _ _ _ _ _ _ _ _ _ _ _ _ _ _ _ _ _ _ _ _ _ _ _ _ _ _ _ _ _ _ _ _ _ _ _ _ _ _ _ _ _ _ _ _ _ _ _ _ _ _ _ _ _ _ _ _ _ _ _ _ _ _ _ _ _ _ _ _ _ _ _ _ _ _ _ _ _ _ _ _ _ _ _ _ _ _ _ _ _ _ _ _ _ _ _ _ _ _ _ _ _ _ _ _ _ _ _ _ _ ?_ TQ EQ HB6 HK6 (by omega)
          intro t103 t104 t105 t106 t107 t108 t109 t110 t111 t112 t113 t114 t115 t116 t117 t118 t119 g ao' c' wx h1 h2 h3 h4
          (try dsimp only)
          go_wp2
          go_meet
          exact ⟨g, ao', c', rfl, rfl, rfl, rfl, h1, h2, h3, h4⟩
      · obtain ⟨la, rfl⟩ : ∃ a, lo = some a := by
          cases lo with
          | none => exact absurd (HLN.out rfl) (fun h => by have h1 := h.1; subst h1; simp at hp1; omega)
          | some a => exact ⟨a, rfl⟩
        have EQ := fun w' (hk : Kept Nil w5 w') => EQ0 (some (la.add (p * 4))) (cl - p) w' hk ((HRL.out.drop p).take n) (fun h => by simp at h) (by have := HLC.out; omega)
        clear EQ0
        refine reg_ne L.length cl c m n p la ao M' t mt fs lk w5 w6 _ _ _ _ _ _ _ _ _ _ _ _ _ _ _ _ _ _ _ _ _ _ _ _ _ _ _ _ _ _ _ _ _ _ _ _ _ _ _ _ _ _ _ _ _ _ _ _ _ _ _ _ _ _ _ _ _ _ _ _ _ _ _ _ _ _ _ _ _ _ _ _ _ _ _ _ _ _ _ _ _ _ _ _ _ _ _ _ _ _ _ _ _ _ _ _ _ _ _ _ _ _ _ _ _ _ _ _ _ _ _ _ _ _ _ _ _ _ _ _ _ _ _ _ _ _ _ _ _ _ _ _ _ _ _ _ _ _ _ _ _ _ _ _ _ _ _ _ _ _ _ _ _ _ _ _ _ _ _ _ _ _ _ _ _ _ _ _ _ _ _ _ _ _ _ _ _ _ _ _ _ _ _ _ _ _ _ _ _ _ _ _ _ _ _ _ _ _ _ _ _ _ _ _ _ _ _ _ _ _ _ _ _ _ _ _ _ _ _ _ ?_ TQ EQ HB6 HK6 hpc (by have := HLC.out; omega) (by omega)
        intro t103 t104 t105 t106 t107 t108 t109 t110 t111 t112 t113 t114 t115 t116 t117 t118 t119 g ao' c' wx h1 h2 h3 h4
        (try dsimp only)
        go_wp2
        go_meet
        exact ⟨g, ao', c', rfl, rfl, rfl, rfl, h1, h2, h3, h4⟩
    case rest =>
      obtain ⟨g, ao', c', rfl, rfl, rfl, rfl, HG, HOG, HB, HKx⟩ := hcut
      rename World => wx
      clear EQ0 TQ HB6 HK6 c0 c1x c2x l6 g0 g1 g2 w6
      by_cases hpk : p ≤ k
      · have h := HE.out
        have hres : lk = 0 ∧ mt = (p : Int) + n ∧ p + n ≤ M'.length ∧ k ≤ M'.length ∧ M'.take (p + n) = L.take (p + n) ∧ (∀ e ∈ M', e.dt.length ≤ 3) ∧ ((p + n ≤ k ∧ fs = 0 ∧ M'.length = m) ∨ (k < p + n ∧ fs = (k : Int) + 1)) := by
          have hds : ∀ e ∈ L.take k ++ O, e.dt.length ≤ 3 := fun e he => by
            rcases List.mem_append.1 he with he | he
            · rw [HLL.out.dt e (List.mem_of_mem_take he)]; omega
            · rw [(HOT.out e he).2]; omega
          by_cases hnk : p + n ≤ k
          · rw [HT.out.ext_within hnk] at h
            simp only [Prod.mk.injEq] at h
            obtain ⟨rfl, rfl, rfl, rfl⟩ := h
            have hlen := HT.out.len
            refine ⟨rfl, by omega, by omega, by omega, ?_, hds, .inl ⟨hnk, rfl, HML.out⟩⟩
            rw [List.take_append_of_le_length (by simp; omega), List.take_take, Nat.min_eq_left hnk]
          · rw [HT.out.ext_past hpk (by omega) hn1] at h
            simp only [Prod.mk.injEq] at h
            obtain ⟨rfl, rfl, rfl, rfl⟩ := h
            have hlen : (L.take (p + n)).length = p + n := by simp; omega
            refine ⟨rfl, by omega, by omega, by omega, by rw [List.take_take, Nat.min_self], fun e he => by rw [HLL.out.dt e (List.mem_of_mem_take he)]; omega, .inr ⟨by omega, rfl⟩⟩
        clear h
        obtain ⟨rfl, rfl, hl1', hl2', htk, hds, hend⟩ := hres
        have HGX : Hid (∀ i, i < p + n → ∃ h1 : i < M'.length, ∃ h2 : i < L.length, M'[i] = L[i]) := fun i hi => ⟨by omega, by omega, by
          have h1 : (M'.take (p + n))[i]? = (L.take (p + n))[i]? := by rw [htk]
          rw [List.getElem?_take_of_lt hi, List.getElem?_take_of_lt hi, List.getElem?_eq_getElem (by omega), List.getElem?_eq_getElem (by omega)] at h1
          exact Option.some.inj h1⟩
        have HRO : Hid (EntRow wx.heap.size wx ao' M') := HOG.out.row (fun e he => by have := hds e he; unfold maxLen; omega)
        have HRX : Hid (EntRow wx.heap.size wx lo L) := (HRL.out.nil HKx.out).full
        obtain ⟨ml, hml⟩ : ∃ ml, ml = M'.length := ⟨_, rfl⟩
        rw [← hml] at HG hl1' hl2' hend
        have HGM : Hid (ml = M'.length) := hml
        clear hml htk hds HE
        have e0 := blk_at HG.out 0 rfl
        have e1 := blk_at HG.out 1 rfl
        have e2 := blk_at HG.out 2 rfl
        obtain ⟨f0, f1, f2⟩ := lookB HB.out
        have hfit : decide ((p : Int) ≤ k) = true := by simp; omega
        have hfit2 : (p : Int) ≤ k := by omega
        have hmt : ((p : Int) + n != (p : Int) + n) = false := by simp
        have hml1 : ¬ (ml : Int) < (p : Int) + n := by omega
        have hml2 : ¬ (ml : Int) < k := by omega
        have hml3 : decide ((ml : Int) < (p : Int) + n) = false := by simp; omega
        have hml4 : decide ((ml : Int) < k) = false := by simp; omega
        go_wp2_with fail
        go_loopw [28] (fun i wr => ∃ j : Nat, j ≤ p + n ∧ i = .int .i64 j ∧ Hid (Kept Nil wx wr)) (fun i _ => p + n - (intOf i).toNat)
        case atStart => exact ⟨0, Nat.zero_le _, rfl, Kept.refl _ _⟩
        case round =>
          obtain ⟨j, hj, rfl, HJ⟩ := hrel
          have HGJ : Hid (_) := HJ.out.block _ _ HG.out (fun x => x.elim)
          have d0 := blk_at HGJ.out 0 rfl
          have d1 := blk_at HGJ.out 1 rfl
          have d2 := blk_at HGJ.out 2 rfl
          by_cases hlt : j < p + n
          · obtain ⟨g1, g2, g3⟩ := HGX.out j hlt
            obtain ⟨a1, rfl, _, x0, x1, x2, x3, _⟩ := (HRO.out.nil HJ.out) j g1
            obtain ⟨a2, rfl, _, y0, y1, y2, y3, _⟩ := (HRX.out.nil HJ.out) j g2
            rw [g3] at x0 x1 x2 x3
            have hji : (j : Int) < (p : Int) + n := by omega
            have hjm : (j : Int) < ml := by have := HGM.out; omega
            have hjl : (j : Int) < L.length := by omega
            generalize L[j].ix = ix at *
            generalize L[j].tm = tm at *
            generalize L[j].kd = kd at *
            generalize L[j].dt = dt at *
            clear g3
            go_wp2
            go_quiet (fail)
            go_wp2
            go_roundw
            case rel => exact ⟨j + 1, by omega, by go_num, HJ.out.drewN _⟩
            case measure => simp [intOf]; omega
          · have hji : ¬ (j : Int) < (p : Int) + n := by omega
            rcases hend with ⟨hn2, rfl, rfl⟩ | ⟨hn2, rfl⟩
            · have hlo : decide ((p : Int) + n ≤ k) = true := by simp; omega
              have hlo2 : (p : Int) + n ≤ k := by omega
              have hmm : ((ml : Int) == ml) = true := by simp
              go_wp2
              go_ret
              exact ⟨rfl, K2.out.trans (HK.out.trans (HKx.out.trans HJ.out))⟩
            · have hlo : decide ((p : Int) + n ≤ k) = false := by simp; omega
              have hlo2 : ¬ (p : Int) + n ≤ k := by omega
              have hk0 : ((k : Int) + 1 == 0) = false := by simp; omega
              have hk2 : ((k : Int) + 1 == (k : Int) + 1) = true := by simp
              go_wp2
              go_ret
              exact ⟨rfl, K2.out.trans (HK.out.trans (HKx.out.trans HJ.out))⟩
      · have h := HE.out
        rw [HT.out.ext_not (by omega) hp1] at h
        simp only [Prod.mk.injEq] at h
        obtain ⟨h1, rfl, rfl, h4⟩ := h
        obtain ⟨q, hlook, hq, _⟩ := look_left (L.take k ++ O) (p := p) (by omega)
        rw [hlook, show ((q + 1 : Nat) : Int) = (q : Int) + 1 by omega] at h4
        subst h4
        have hmm : M'.length = m := by rw [h1, HML.out]
        rw [hmm] at HG
        have e0 := blk_at HG.out 0 rfl
        have e1 := blk_at HG.out 1 rfl
        have e2 := blk_at HG.out 2 rfl
        obtain ⟨f0, f1, f2⟩ := lookB HB.out
        have RT := fun w' (hk : Kept Nil w5 w') => returns_any HT.out rfl w5.heap.size c cl p ao lo w' (HRM.out.nil hk) (HRL.out.nil hk) HNM.out (by rw [HML.out]; exact HCM.out) (by rw [HML.out]; omega) (by omega) hp1
        rw [HML.out] at RT
        have hfit : decide ((p : Int) ≤ k) = false := by simp; omega
        have hz : ((q : Int) + 1 == 0) = false := by simp; omega
        have hmq : ((m : Int) == m) = true := by simp
        have hg1 : decide ((1 : Int) ≤ (q : Int) + 1) = true := by simp; omega
        have hg2 : decide ((q : Int) + 1 ≤ p) = true := by simp; omega
        have hg3 : (q : Int) + 1 ≤ p := by omega
        have hg4 : ¬ (p : Int) ≤ k := by omega
        clear h1 hlook
        go_wp2_with fail
        refine (RT _ HKx.out).mono ?_
        rintro e w9 ⟨rfl, k9⟩
        have K9 : Hid (Kept Nil w5 w9) := HKx.out.trans k9
        clear k9
        go_wp2
        go_ret
        exact ⟨rfl, K2.out.trans (HK.out.trans K9.out)⟩

end Go.Proofs.Ytopdgkebbdheiaa
