/-
  ClientOnce: the walk.
-/
import Derived.Test.YtbfleeilpccmcaaWCoI
import Derived.Deep.DeepCutAuto
import Derived.Deep.DeepFit
import Derived.Deep.RegionHeld3
namespace Go.Proofs.Ytbfleeilpccmcaa
open Go.RowKit

set_option maxRecDepth 100000 in
set_option maxHeartbeats 40000000 in
theorem clientOnce_any (nodes : Int) (cs : Nat) (so : Option Addr) (ss : List An) (w : World) (hs : AnRow w.heap.size w so ss) (hls : (ss.length : Int) ≤ 9223372036854775807) :
    Calls Try.prog 4 #[.int .i64 nodes, .slice so ss.length cs] w fun e w' => e = .returned (.bool true) ∧ Kept Nil w w' := by
  have HScr : Hid (AnRow w.heap.size w so ss) := hs
  clear hs
  by_cases hbig : 16384 < ss.length
  · have hbi : (16384 : Int) < ss.length := by omega
    go_enter Try.func4, Try.ntmps4
    go_wp2
    go_ret
    exact ⟨rfl, Kept.refl _ _⟩
  · have hbi : ¬ (16384 : Int) < ss.length := by omega
    obtain ⟨i0, hz, hz0, hz1, hz2⟩ := info_parts Try.infoInt
    have PK := fun X => pickC_any nodes 5 X (by decide) (by decide)
    obtain ⟨u, HU⟩ : ∃ u, Hid (u = nodes % 5) := ⟨_, rfl⟩
    rw [← HU.out] at PK
    have hu0 : 0 ≤ u := by rw [HU.out]; exact Int.emod_nonneg _ (by decide)
    have hu1 : u < 5 := by rw [HU.out]; exact Int.emod_lt_of_pos _ (by decide)
    clear HU
    have hwu : IntKind.i64.wrap (1 + u) = 1 + u := by rw [IntKind.wrap_i64]; omega
    go_enter Try.func4, Try.ntmps4
    go_wp2
    go_loopw [5, 6] (fun s5 s6 wr => ∃ k : Nat, ∃ ao : Option Addr, ∃ c0 : Nat, (k : Int) ≤ 1 + u ∧ s5 = .slice ao k c0 ∧ s6 = .int .i64 ((k : Int) + 1) ∧ Hid (wr.ownsRow w.heap.size 3 1 (.slice ao k c0) k (intCells (upto k))) ∧ Hid (Kept Nil w wr)) (fun _ s6 _ => (10 - (intOf s6)).toNat)
    case atStart => exact ⟨0, none, 0, by omega, rfl, rfl, World.ownsRow_nil _ _ _ _, Kept.refl _ _⟩
    case round =>
      obtain ⟨k, ao, c0, hk, rfl, rfl, HO, HK⟩ := hrel
      rename World => wr
      by_cases hlt : (k : Int) + 1 ≤ 1 + u
      · have HLL : Hid (k + 1 ≤ maxLen ∧ (k + 1) * 8 ≤ 140737488355328) := by constructor <;> (try unfold maxLen) <;> omega
        have hw2 : IntKind.i64.wrap ((k : Int) + 1 + 1) = (k : Int) + 1 + 1 := by rw [IntKind.wrap_i64]; omega
        go_wp2_with (first | (go_at_call 14; go_fit (PK _); rintro _ w9 ⟨rfl, h9⟩; rw [h9]; clear h9) | (at_builtin; go_must (refine wpList_append_src _ rfl _ _ 22 22 rfl w.heap.size 3 i0 (.int .i64 0) 1 8 Try.underlying22 hz hz0 hz1 hz2 rfl _ _ _ rfl (HO.out.alloc _) (.slice (some ⟨wr.heap.size, 0, none⟩) 1 1) 1 [.int .i64 ((k : Int) + 1)] rfl (src_int _) HLL.out.1 HLL.out.2 (le_alloc HK.out.size _) ?_); intro a2 c2 w2 ho2 hg2; have HK2 : Hid (Kept Nil w w2) := (HK.out.alloc _).grown hg2 (own_row HO.out); have HO2 : Hid (w2.ownsRow w.heap.size 3 1 (.slice a2 (k + 1) c2) (k + 1) (intCells (upto (k + 1)))) := by { rw [upto_cells]; exact ho2 }; clear hg2 ho2))
        go_roundw
        case rel => exact ⟨k + 1, a2, c2, by omega, rfl, by go_num, HO2.out, HK2.out⟩
        case measure => simp [intOf]; omega
      · obtain ⟨l, HL⟩ : ∃ l, Hid (l = upto k) := ⟨_, rfl⟩
        have hkl : k = l.length := by rw [HL.out, upto_len]
        have hl5 : l.length ≤ 5 := by omega
        have hl0 : 0 < l.length := by omega
        have HLok : Hid (newOk l 2 = true) := by show _ = _; rw [HL.out]; exact upto_ok (by omega) (by omega)
        have HLat : Hid (∀ j (hj : j < l.length), l[j] = (j : Int) + 1) := by
          rw [HL.out]
          exact fun j hj => upto_at hj
        have HOl : Hid (wr.ownsRow w.heap.size 3 1 (.slice ao k c0) k (intCells (l ++ []))) := by rw [List.append_nil, HL.out]; exact HO.out
        clear HL HO
        subst hkl
        have RW : Hid (IntRow wr.heap.size wr ao l) := row_own HOl.out
        have N1 := new_yes wr.heap.size c0 ao l 2 wr RW.out (by omega) HLok.out
        go_upto_region 9 with (first | (go_at_call 14; go_fit (PK _); rintro _ w9 ⟨rfl, h9⟩; rw [h9]; clear h9) | (go_at_call 5; go_fit N1; rintro _ w1 ⟨b, an, cn, rfl, h1, o1, n1, k1⟩; have M1 : Hid (MO w w1 b (newC 2) l an cn none 0) := ⟨h1, own_mono o1 HK.out.size, HK.out.trans k1, Nat.le_trans HK.out.size n1⟩; clear h1 o1 n1 k1))
        obtain ⟨Q, HQe⟩ : ∃ Q, Hid (Q = w1.heap.size) := ⟨_, rfl⟩
        obtain ⟨X, hX⟩ : ∃ X, X = w1.alloc (.cells #[.int .i64 0, .string ⟨#[]⟩, .string ⟨#[]⟩, .int .i64 0] 30) := ⟨_, rfl⟩
        have HX : Hid (MO w X b (newC 2) l an cn none 0 ∧ X.heap[Q]? = some (.cells #[.int .i64 0, .string (bs []), .string (bs []), .int .i64 0] 30 (0, 0))) := by
          rw [hX, HQe.out]
          exact ⟨M1.out.next ((Kept.refl _ _).alloc _), blk_new _ _⟩
        have hbQ : b ≠ Q := by have := lt_of_block M1.out.cl; have := HQe.out; omega
        have hQn : w.heap.size ≤ Q := by have := M1.out.kept.size; have := HQe.out; omega
        go_upto_region 14 with fail
        rw [← HQe.out, ← hX]
        clear hX M1 HOl RW N1 HK PK hwu
        go_wp2
        go_loopw [9, 10, 12, 13] (fun s9 s10 s12 s13 wr => ∃ (k : Nat) (c : Cl) (sv nv : Int), k ≤ ss.length ∧ s9 = .int .i64 sv ∧ s10 = .int .i64 nv ∧ s12 = .int .i64 c.la ∧ s13 = .int .i64 k ∧ Hid (∃ ko kc ak akey aval ai, MO w wr b c l an cn ko kc ∧ PC (2 * k) l.length c ∧ OI c sv nv ak akey aval ai ∧ (c.st = 0 ∨ c.st = 1) ∧ wr.heap[Q]? = some (.cells #[.int .i64 ak, .string (bs akey), .string (bs aval), .int .i64 ai] 30 (0, 0)))) (fun _ _ _ s13 _ => ss.length - (intOf s13).toNat)
        case atStart => exact ⟨0, newC 2, 0, 0, Nat.zero_le _, rfl, rfl, rfl, rfl, none, 0, 0, [], [], 0, HX.out.1, PC.new hl0 (by decide) (by decide), OI.new 2, .inl rfl, HX.out.2⟩
        case round =>
          obtain ⟨k, c, sv, nv, hk9, rfl, rfl, rfl, rfl, HI⟩ := hrel
          clear HX
          rename World => wr
          obtain ⟨ko, kc, ak, akey, aval, ai, m, p, oi, hst, hq⟩ := HI.out
          by_cases hlt2 : k < ss.length
          · obtain ⟨a, rfl, hab, hcells, hkin⟩ := (HScr.out.nil m.kept) k hlt2
            obtain ⟨s, hs9⟩ : ∃ s, s = ss[k] := ⟨_, rfl⟩
            rw [← hs9] at hcells hkin
            have HS9 : Hid (s = ss[k]) := hs9
            clear hs9
            have hki : (k : Int) < ss.length := by omega
            have HCX : Hid (∀ X, Kept Nil w X → (X.cell? (a.add (k * 6)) = some (.int .i64 s.tk) ∧ X.cell? ⟨(a.add (k * 6)).block, (a.add (k * 6)).off + 1, none⟩ = some (.int .i64 s.er) ∧ X.cell? ⟨(a.add (k * 6)).block, (a.add (k * 6)).off + 2, none⟩ = some (.int .i64 s.rk) ∧ X.cell? ⟨(a.add (k * 6)).block, (a.add (k * 6)).off + 3, none⟩ = some (.string (bs s.rval)) ∧ X.cell? ⟨(a.add (k * 6)).block, (a.add (k * 6)).off + 4, none⟩ = some (.int .i64 s.rver) ∧ X.cell? ⟨(a.add (k * 6)).block, (a.add (k * 6)).off + 5, none⟩ = some (.slice s.ao s.ks.length s.cc)) ∧ KIn (fun k => k < w.heap.size) X s.ao s.cc s.ks) := fun X hX => by
              obtain ⟨a', ha', _, hc, hk⟩ := (HScr.out.nil hX) k hlt2
              cases ha'
              rw [← HS9.out] at hc hk
              exact ⟨hc, hk⟩
            have HM : Hid (MO w wr b c l an cn ko kc) := m
            have HKl : Hid (s.ks.length ≤ 8796093022200 ∧ ∀ k ∈ s.ks, k.length ≤ maxLen) := by
              obtain ⟨_, hk8⟩ := HCX.out wr m.kept
              refine ⟨hk8.len, fun q hq8 => ?_⟩
              obtain ⟨j, hj, rfl⟩ := List.getElem_of_mem hq8
              obtain ⟨_, _, _, _, h8⟩ := hk8.row j hj
              exact h8
            have HP : Hid (PC (2 * k) l.length c) := p
            have HOI : Hid (OI c sv nv ak akey aval ai) := oi
            have HST : Hid (c.st = 0 ∨ c.st = 1) := hst
            have HQ : Hid (wr.heap[Q]? = some (.cells #[.int .i64 ak, .string (bs akey), .string (bs aval), .int .i64 ai] 30 (0, 0))) := hq
            have haB : a.block < w.heap.size := hab
            clear m p oi hst hq HI hcells hkin
            go_upto_region 18 with fail
            have hmod : k % 256 < 256 := Nat.mod_lt _ (by decide)
            have CV := conv_oneC wr (k % 256) hmod
            rw [show ((k % 256 : Nat) : Int) = (k : Int) % 256 by omega] at CV
            go_cut [14] from 55 to 268 (fun s14 wc => ∃ (B14 : Nat) (v : List UInt8), s14 = .pointer (some ⟨B14, 0, none⟩) ∧ Hid (v.length = 1) ∧ Hid (wc.heap[B14]? = some (.cells #[.int .i64 1, .string (bs [107]), .string (bs v), .int .i64 0] 30 (0, 0))) ∧ Hid (Kept Nil wr wc) ∧ Hid (wr.heap.size ≤ B14))
            case first =>
              go_wp2
              go_meet
              exact ⟨_, [UInt8.ofNat (k % 256)], rfl, rfl, blk_new1C _ _ _ _, ((Kept.refl _ _).alloc _).alloc _, by first | exact trivial | (show _ ≤ _; omega)⟩
            case rest =>
              obtain ⟨B14, v, rfl, HV1, HB14, K14, N14⟩ := hcut
              rename World => w1
              have M1 : Hid (MO w w1 b c l an cn ko kc) := HM.out.next K14.out
              have HQ1 : Hid (w1.heap[Q]? = some (.cells #[.int .i64 ak, .string (bs akey), .string (bs aval), .int .i64 ai] 30 (0, 0))) := K14.out.block _ _ HQ.out (fun x => x.elim)
              have hk14 : (k : Int) ≤ 16384 := by omega
              apply_assumption
              refine coTail19 w w1 b cn kc Q k cs c0 B14 c l an ao ko a ss s sv nv ak ai akey aval v _ _ _ _ _ _ _ _ _ _ _ _ _ _ _ _ _ _ _ _ _ _ _ _ _ _ _ _ _ _ _ _ _ _ _ _ _ _ _ _ _ _ _ _ _ _ _ _ _ _ _ _ _ _ _ _ _ _ _ _ _ _ _ _ _ _ _ _ _ _ _ _ _ _ _ _ _ _ _ _ _ _ _ _ _ _ _ _ _ _ _ _ _ _ _ _ _ _ _ _ _ _ _ _ _ _ _ _ _ _ _ _ _ _ _ _ _ _ _ _ _ _ _ _ _ _ _ _ _ _ _ _ _ _ _ _ _ _ _ _ _ _ _ _ _ _ _ _ _ _ _ _ _ _ _ _ _ _ _ _ _ _ _ _ _ _ _ _ _ _ _ _ _ _ _ _ _ _ _ _ _ _ _ _ _ _ _ _ _ _ _ _ _ _ _ _ _ _ _ _ _ _ _ _ _ _ _ _ _ _ _ _ _ _ _ _ _ _ _ _ _ _ _ _ _ _ _ _ _ _ _ _ _ _ _ _ _ _ _ _ _ _ _ _ _ _ _ _ _ _ _ _ _ _ _ _ _ _ _ _ _ _ ?_ M1 HQ1 HB14 HV1 HOI HST HCX HKl HP HLat hbQ hQn hl5 hki hk14 haB
              intro u4 u15 u16 u17 u18 u19 u20 u21 u22 u23 u24 u25 u26 u27 u28 u66 u67 u68 u69 u70 u71 u72 u73 u74 u75 u76 u77 u78 u79 u80 u81 u82 u83 u84 u85 u86 u87 u88 u89 u90 u91 u92 u93 u94 u95 u96 u97 u98 u99 u100 u101 u102 u103 u104 u105 u106 u107 u108 u109 u110 u111 u112 u113 u114 u115 u116 u117 u118 u119 u120 u121 u122 u123 u124 u125 u126 u127 u128 u129 u130 u131 u132 u133 u134 u135 u136 u137 u138 u139 u140 u141 u142 u143 u144 u145 u146 u147 u148 u149 u150 u151 u152 u153 u154 u155 u156 u157 u158 u159 u160 u161 u162 u163 u164 u165 u166 u167 u168 u169 u170 u171 u172 u173 u174 u175 u176 u177 u178 u179 u180 u181 u182 u183 u184 u185 u186 u187 u188 u189 u190 u191 u192 u193 u194 u195 u196 u197 u198 u199 u200 u201 u202 u203 u204 u205 u206 u207 u208 u209 u210 u211 u212 u213 u214 u215 u216 u217 u218 u219 u220 u221 u222 u223 u224 u225 u226 u227 u228 u229 u230 u231 u232 u233 u234 u235 u236 u237 u238 u239 u240 u241 u242 u243 u244 u245 u246 u247 u248 u249 u250 u251 u252 u253 u254 u255 u256 u257 u258 u259 u260 u261 u262 u263 u264 u265 u266 u267 u268 c5 sv2 nv2 wz h1
              have HF5 : Hid (∃ ko kc ak akey aval ai, MO w wz b c5 l an cn ko kc ∧ PC (2 * ((k + 1 : Nat) : Int)) l.length c5 ∧ OI c5 sv2 nv2 ak akey aval ai ∧ (c5.st = 0 ∨ c5.st = 1) ∧ wz.heap[Q]? = some (.cells #[.int .i64 ak, .string (bs akey), .string (bs aval), .int .i64 ai] 30 (0, 0))) := h1.out
              clear h1 HM HP HOI HST HQ M1 HQ1 HB14 CV
              (try dsimp only)
              go_wp2
              go_roundw
              case rel => exact ⟨k + 1, c5, sv2, nv2, by omega, rfl, rfl, rfl, by go_num, HF5.out⟩
              case measure => simp [intOf]; omega
          · have HKe : Hid (Kept Nil w wr) := m.kept
            have hki : ¬ (k : Int) < ss.length := by omega
            clear m p oi hst hq HI
            go_wp2
            go_ret
            exact ⟨rfl, HKe.out⟩

end Go.Proofs.Ytbfleeilpccmcaa
