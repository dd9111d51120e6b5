/-
  KvMap: the walk.
-/
import Derived.Test.YtblmmbghnkplkaaWKmY
import Derived.Deep.DeepCutAuto
import Derived.Deep.DeepFit
namespace Go.Proofs.Ytblmmbghnkplkaa
open Go.RowKit

set_option maxRecDepth 100000 in
set_option maxHeartbeats 40000000 in
theorem kvMap_any (B cc : Nat) (co : Option Addr) (cs : List Cm) (w : World) (hc : CmRow B w co cs) (_hcl : (cs.length : Int) ≤ 9000000000000000000) (hB : B ≤ w.heap.size) :
    Calls Try.prog 6 #[.slice co cs.length cc] w fun e w' => e = .returned (.bool true) ∧ Kept Nil w w' := by
  have A0 := apply_any 0 0 none [] [107] [118] 1 0 w (fun j hj => absurd hj (by simp)) (fun _ => ⟨rfl, rfl⟩) (by simp) (by simp [maxLen]) (by simp [maxLen])
  rw [first_ap.1, first_ap.2] at A0
  have HC0 : Hid (CmRow w.heap.size w co cs) := hc.wide hB
  have hds := bs_size
  have ht := bs_toList
  clear hc hB
  go_enter Try.func6, Try.ntmps6
  go_wp2_with fail
  go_fit A0
  rintro _ w1 ⟨ao1, c1, ko, kc, rfl, _, _, k1⟩
  have K1 : Hid (Kept Nil w w1) := k1
  clear k1 A0
  unfold rrV
  dsimp only [List.length_cons, List.length_nil]
  obtain ⟨w2, HW2⟩ : ∃ w2, Hid (w2 = w1.alloc (.cells #[.int .i64 1, .string (bs []), .int .i64 1, .slice ko 0 kc] 55)) := ⟨_, rfl⟩
  have K2 : Hid (Kept Nil w w2) := by rw [HW2.out]; exact K1.out.alloc _
  go_wp2_with fail
  rw [← HW2.out]
  clear HW2 K1
  go_loopg [5, 6, 7, 8] (cs.length + 1) (fun g s5 s6 s7 s8 wr => ∃ k : Nat, ∃ ps ks vs, ∃ ap ak av, ∃ cp ck cv, k ≤ cs.length ∧ k ≤ 1048576 ∧ g = cs.length + 1 - k ∧ s5 = .slice ap ps.length cp ∧ s6 = .slice ak ks.length ck ∧ s7 = .slice av vs.length cv ∧ s8 = .int .i64 k ∧ Hid (KM w k ps ks vs ap ak av cp ck cv wr))
  case atStart => exact ⟨0, [], [], [], none, none, none, 0, 0, 0, Nat.zero_le _, by omega, rfl, rfl, rfl, rfl, rfl, KM.zero K2.out⟩
  case round =>
    obtain ⟨k, ps, ks, vs, ap, ak, av, cp, ck, cv, hk, hkm, rfl, rfl, rfl, rfl, rfl, HM⟩ := hrel
    clear K2
    rename World => wr
    by_cases h1 : k < cs.length
    · have h1i : (k : Int) < cs.length := by omega
      by_cases h2 : k < 1048576
      · have h2i : (k : Int) < 1048576 := by omega
        obtain ⟨a, rfl, _, hc0, hc1, hc2, hc3, l1, l2⟩ := (HC0.out.nil HM.out.kept) k h1
        have HL12 : Hid (cs[k].k.length ≤ maxLen ∧ cs[k].v.length ≤ maxLen) := ⟨l1, l2⟩
        clear l1 l2
        generalize cs[k].kd = kd at *
        generalize cs[k].k = key at *
        generalize cs[k].v = val at *
        generalize cs[k].m = m at *
        obtain ⟨cb, HCB⟩ : ∃ cb, Hid (cb = wr.heap.size) := ⟨_, rfl⟩
        have HCB2 : Hid (wr.heap.size ≤ cb) := by show _ ≤ _; rw [HCB.out]; exact Nat.le_refl _
        go_wp2_with fail
        go_fit (pick_any _ 6 _ (by decide) (by decide))
        rintro _ X ⟨rfl, hX⟩
        obtain ⟨u, HU⟩ : ∃ u, Hid (u = wrap64 (kd - 1) % 6) := ⟨_, rfl⟩
        rw [← HU.out]
        have hu0 : 0 ≤ u := by rw [HU.out]; exact Int.emod_nonneg _ (by decide)
        have hu1 : u < 6 := by rw [HU.out]; exact Int.emod_lt_of_pos _ (by decide)
        clear HU
        have hwu : IntKind.i64.wrap (1 + u) = 1 + u := by rw [IntKind.wrap_i64]; omega
        obtain ⟨W1, hW1⟩ : ∃ W1, W1 = wr.alloc (.cells #[.int .i64 (1 + u), .string (bs key), .string (bs val), .int .i64 0] 59) := ⟨_, rfl⟩
        have HX1 : Hid (W1.heap[cb]? = some (.cells #[.int .i64 (1 + u), .string (bs key), .string (bs val), .int .i64 0] 59 (0, 0))) := by rw [hW1, HCB.out]; exact blk_new _ _
        have KX1 : Hid (Kept Nil wr W1) := by rw [hW1]; exact (Kept.refl _ _).alloc _
        subst hX
        go_upto_if 63 with fail
        rw [← hW1, ← HCB.out]
        clear hW1
        go_cut [] (fun wc => ∃ k2 : List UInt8, Hid (wc.heap[cb]? = some (.cells #[.int .i64 (1 + u), .string (bs k2), .string (bs val), .int .i64 0] 59 (0, 0))) ∧ Hid (k2.length ≤ 3) ∧ Hid (Kept Nil wr wc))
        case first =>
          by_cases h3 : key.length ≤ 3
          · have h3b : decide (3 < (key.length : Int)) = false := decide_eq_false (by omega)
            have H3 : Hid (key.length ≤ 3) := h3
            clear h3 hc0 hc1 hc2 hc3
            rw [h3b]
            go_wp2
            go_meet
            exact ⟨key, HX1.out, H3.out, KX1.out⟩
          · have h3b : decide (3 < (key.length : Int)) = true := decide_eq_true (by omega)
            rw [h3b]
            have h3c : (3 : Int) ≤ (key.length : Int) := by omega
            have x1 : W1.cell? ⟨cb, 1, none⟩ = some (.string (bs key)) := blk_at HX1.out 1 rfl
            have f1 : W1.frozen? ⟨cb, 1, none⟩ = false := blk_free HX1.out 1
            clear h3 hc0 hc1 hc2 hc3 h3b
            have HS1 : Hid ((W1.setCell ⟨cb, 1, none⟩ (.string ((bs key).extract 0 3))).heap[cb]? = some (.cells #[.int .i64 (1 + u), .string (bs (key.take 3)), .string (bs val), .int .i64 0] 59 (0, 0))) := by rw [bs_take]; exact blk_set HX1.out 1 _
            go_wp2
            go_meet
            exact ⟨key.take 3, HS1.out, by rw [List.length_take]; exact Nat.min_le_left _ _, KX1.out.setNew (p := ⟨cb, 1, none⟩) HCB2.out _⟩
        case rest =>
          obtain ⟨k2, HX2, HK2, KX2⟩ := hcut
          rename World => W2
          clear HX1 KX1 hc0 hc1 hc2 hc3
          have x1 : W2.cell? ⟨cb, 1, none⟩ = some (.string (bs k2)) := blk_at HX2.out 1 rfl
          have f1 : W2.frozen? ⟨cb, 1, none⟩ = false := blk_free HX2.out 1
          have hsum : ∀ w' : World, (Op.stringOp .add ⟨#[107]⟩ (bs k2)).run Try.prog w' = .ok (.string (bs (107 :: k2))) w' := fun w' => by
            have := run_string_add_sum (P := Try.prog) w' (bs [107]) (bs k2) (by rw [bs_size, bs_size]; have := HK2.out; simp; omega)
            rw [bs_append] at this
            exact this
          have HX3 : Hid ((W2.setCell ⟨cb, 1, none⟩ (.string (bs (107 :: k2)))).heap[cb]? = some (.cells #[.int .i64 (1 + u), .string (bs (107 :: k2)), .string (bs val), .int .i64 0] 59 (0, 0))) := blk_set HX2.out 1 _
          have KX3 : Hid (Kept Nil wr (W2.setCell ⟨cb, 1, none⟩ (.string (bs (107 :: k2))))) := KX2.out.setNew (p := ⟨cb, 1, none⟩) HCB2.out _
          have x2 : W2.cell? ⟨cb, 2, none⟩ = some (.string (bs val)) := blk_at HX2.out 2 rfl
          go_upto_if 75 with fail
          obtain ⟨W3, HW3⟩ : ∃ W3, Hid (W3 = W2.setCell ⟨cb, 1, none⟩ (.string (bs (107 :: k2)))) := ⟨_, rfl⟩
          rw [← HW3.out] at HX3 KX3 ⊢
          clear HW3 x1 f1 hsum x2 HX2 KX2
          go_cut [] (fun wc => ∃ v2 : List UInt8, Hid (wc.heap[cb]? = some (.cells #[.int .i64 (1 + u), .string (bs (107 :: k2)), .string (bs v2), .int .i64 0] 59 (0, 0))) ∧ Hid (v2.length ≤ 20) ∧ Hid (Kept Nil wr wc))
          case first =>
            by_cases h3 : val.length ≤ 20
            · have h3b : decide (20 < (val.length : Int)) = false := decide_eq_false (by omega)
              have H3 : Hid (val.length ≤ 20) := h3
              clear h3
              rw [h3b]
              go_wp2
              go_meet
              exact ⟨val, HX3.out, H3.out, KX3.out⟩
            · have h3b : decide (20 < (val.length : Int)) = true := decide_eq_true (by omega)
              rw [h3b]
              have h3c : (20 : Int) ≤ (val.length : Int) := by omega
              have x2 : W3.cell? ⟨cb, 2, none⟩ = some (.string (bs val)) := blk_at HX3.out 2 rfl
              have f2 : W3.frozen? ⟨cb, 2, none⟩ = false := blk_free HX3.out 2
              clear h3 h3b
              have HS1 : Hid ((W3.setCell ⟨cb, 2, none⟩ (.string ((bs val).extract 0 20))).heap[cb]? = some (.cells #[.int .i64 (1 + u), .string (bs (107 :: k2)), .string (bs (val.take 20)), .int .i64 0] 59 (0, 0))) := by rw [bs_take]; exact blk_set HX3.out 2 _
              go_wp2
              go_meet
              exact ⟨val.take 20, HS1.out, by rw [List.length_take]; exact Nat.min_le_left _ _, KX3.out.setNew (p := ⟨cb, 2, none⟩) HCB2.out _⟩
          case rest =>
            obtain ⟨v2, HX4, HV2, KX4⟩ := hcut
            rename World => W4
            clear HX3 KX3
            obtain ⟨kn, HKN⟩ : ∃ kn : Int, Hid (kn = 1 + u) := ⟨_, rfl⟩
            rw [← HKN.out] at HX4
            have hkn : 1 ≤ kn ∧ kn ≤ 6 := by rw [HKN.out]; omega
            have HKn : Hid (1 ≤ kn ∧ kn ≤ 6) := hkn
            clear hkn HKN hu0 hu1 hwu
            have HKT : Hid (0 ≤ (k : Int) ∧ (k : Int) < 1099511627775) := ⟨by omega, by omega⟩
            clear HL12
            apply_assumption
            refine kmTail18 w wr W4 cb cp ck cv k kn ps ks vs k2 v2 ap ak av _ _ _ _ _ _ _ _ _ _ _ _ _ _ _ _ _ _ _ _ _ _ _ _ _ _ _ _ _ _ _ _ _ _ _ _ _ _ _ _ _ _ _ _ _ _ _ _ _ _ _ _ _ _ _ _ _ _ _ _ _ _ _ _ _ _ _ _ _ _ _ _ _ _ _ _ _ _ _ _ _ _ _ _ _ _ _ _ _ _ _ _ _ _ _ _ _ _ _ _ _ _ _ _ _ _ _ _ _ _ _ _ _ _ _ _ _ _ _ _ _ _ _ _ _ _ _ _ _ _ _ _ _ _ _ _ _ _ _ _ _ _ _ _ _ _ _ _ _ _ _ _ _ _ _ _ _ _ _ _ _ _ _ _ _ _ _ _ _ _ _ _ _ _ _ _ _ _ _ _ _ _ _ _ _ _ _ _ _ _ _ _ _ _ _ _ _ _ _ _ _ _ _ _ _ _ _ _ _ _ _ _ _ _ _ _ _ _ _ _ _ _ _ _ _ _ _ _ _ _ _ _ _ _ _ _ _ _ _ _ _ _ _ _ ?_ HM HX4 HV2 HK2 KX4 HCB2 HKn HKT
            intro u2 u11 u12 u13 u14 u15 u16 u17 u18 u19 u20 u39 u40 u41 u42 u43 u44 u45 u46 u47 u48 u49 u50 u51 u52 u53 u54 u55 u56 u57 u58 u59 u60 u61 u62 u63 u64 u65 u66 u67 u68 u69 u70 u71 u72 u73 u74 u75 u76 u77 u78 u79 u80 u81 u82 u83 u84 u85 u86 u87 u88 u89 u90 u91 u92 u93 u94 u95 u96 u97 u98 u99 u100 u101 u102 u103 u104 u105 u106 u107 u108 u109 u110 u111 u112 u113 u114 u115 u116 u117 u118 u119 u120 u121 u122 u123 u124 u125 u126 u127 u128 u129 u130 u131 u132 u133 u134 u135 u136 u137 u138 u139 u140 u141 u142 u143 u144 u145 u146 u147 u148 u149 u150 u151 u152 u153 u154 u155 u156 u157 u158 u159 u160 u161 u162 u163 u164 u165 u166 u167 u168 u169 u170 u171 u172 u173 u174 u175 u176 u177 u178 u179 u180 u181 u182 u183 u184 u185 u186 u187 u188 u189 u190 u191 u192 u193 u194 u195 u196 u197 u198 u199 u200 u201 u202 u203 u204 u205 u206 u207 u208 u209 u210 u211 u212 u213 u214 u215 u216 u217 u218 u219 u220 u221 u222 u223 u224 u225 u226 u227 u228 u229 u230 u231 u232 u233 u234 u235 u236 u237 u238 u239 u240 u241 u242 u243 PS na nc ks3 vs3 ak3 av3 ck3 cv3 n1 n2 wz h0 h1
            obtain ⟨rfl, rfl⟩ := h0.out
            have HKz2 : Hid (KM w ((k : Int) + 1) PS ks3 vs3 na ak3 av3 nc ck3 cv3 wz) := h1
            clear h0 h1
            (try dsimp only)
            go_wp2
            go_roundg (cs.length + 1 - (k + 1))
            case measure => omega
            case rel => exact ⟨k + 1, PS, ks3, vs3, na, ak3, av3, nc, ck3, cv3, by omega, by omega, rfl, rfl, rfl, rfl, by go_num, HKz2.out⟩
      · have h2b : decide ((k : Int) < 1048576) = false := decide_eq_false (by omega)
        have h2n : ¬ (k : Int) < 1048576 := by omega
        go_upto_if 46 with fail
        go_wp2
        go_ret
        exact ⟨rfl, HM.out.kept⟩
    · have h1b : decide ((k : Int) < cs.length) = false := decide_eq_false (by omega)
      have h1n : ¬ (k : Int) < cs.length := by omega
      go_upto_if 46 with fail
      go_wp2
      go_ret
      exact ⟨rfl, HM.out.kept⟩

end Go.Proofs.Ytblmmbghnkplkaa
