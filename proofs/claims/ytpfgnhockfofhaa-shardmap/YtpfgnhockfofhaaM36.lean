/-
  Joined: WSkD.
-/
import Derived.Test.YtpfgnhockfofhaaM35
import Derived.BigQuiet
import Derived.BigRegion
import Derived.Deep.DeepCutAuto
import Derived.Deep.DeepFit
import Derived.Deep.RegionHeld3
/-
  ShardMap: the whole walk.
-/
namespace Go.Proofs.Ytpfgnhockfofhaa
open Go.RowKit

/-- A row of steps as it lies. -/
def SpRow (B : Nat) (w : World) (ao : Option Addr) (l : List Sp) : Prop := ∀ j, (hj : j < l.length) → ∃ a, ao = some a ∧ a.block < B ∧ ∀ (r : Nat) v, (stC l[j]).toList[r]? = some v → w.cell? ((a.add (j * 7)).add r) = some v
theorem SpRow.kept {B : Nat} {w w' : World} {ao : Option Addr} {l : List Sp} (h : SpRow B w ao l) (k : Kept Nil w w') : SpRow B w' ao l := fun j hj => by
  obtain ⟨a, e, hg, hc⟩ := h j hj
  exact ⟨a, e, hg, fun r v hv => cell_kept k (fun _ e => e) (hc r v hv)⟩
/-- A whole variable is read from wherever it lies. -/
theorem wpList_loadA {P : Program} {ops : Array Oper} {rest : List Oper} {op : Oper} {a : Act} {w : World} {Q : Exit → Act → World → Prop} (hgd : op.guard = none) (ty : TypeId) (x : Operand) (ho : op.op = .load ty x)
    (ad : Addr) (hx : a.eval x = .pointer (some ad)) (cs : List Value) (d : TypeDesc) (hc : ∀ (j : Nat) v, cs[j]? = some v → w.cell? (ad.add j) = some v)
    (hu : P.underlying ty = some d) (hd : d.isRow = true) (hi : (P.info? ty).map (·.size) = some cs.length)
    (h : wpList P ops Q rest (a.put op.dst (.agg cs.toArray)) w) : wpList P ops Q (op :: rest) a w :=
  wpList_plain hgd fun _ hK => by
    have hl : (loadCells ad cs.length).run P w = .ok cs.toArray w := run_loadCells_list (P := P) w ad cs hc
    have hlv : (loadVar ty ad).run P w = .ok (.agg cs.toArray) w := by
      cases hq : P.info? ty with
      | none => simp [hq] at hi
      | some i =>
        have hs : i.size = cs.length := by simpa [hq] using hi
        have hagg : (isAgg ty).run P w = .ok true w := by
          unfold isAgg
          rw [Sem.run_bind, run_underlying hu w]
          cases d <;> simp_all
        simp [loadVar, Sem.run_bind, hagg, sizeOf, typeInfo, hq, hs, hl]
    unfold Oper.wp execOp
    simp only [ho, hx, Instr.loadAt, Instr.sureAddr, Sem.run_bind, Sem.run_pure, Result.andThen_ok, hlv]
    exact hK _ _ h
theorem arrS_zero : arrS (fun _ => none) = #[.string ⟨#[]⟩, .string ⟨#[]⟩, .string ⟨#[]⟩, .string ⟨#[]⟩, .string ⟨#[]⟩, .string ⟨#[]⟩, .string ⟨#[]⟩, .string ⟨#[]⟩, .string ⟨#[]⟩, .string ⟨#[]⟩, .string ⟨#[]⟩, .string ⟨#[]⟩, .string ⟨#[]⟩, .string ⟨#[]⟩, .string ⟨#[]⟩, .string ⟨#[]⟩, .string ⟨#[]⟩, .string ⟨#[]⟩, .string ⟨#[]⟩, .string ⟨#[]⟩] := by rfl
theorem arrB_zero : arrB (fun _ => none) = #[.bool false, .bool false, .bool false, .bool false, .bool false, .bool false, .bool false, .bool false, .bool false, .bool false, .bool false, .bool false, .bool false, .bool false, .bool false, .bool false, .bool false, .bool false, .bool false, .bool false] := by rfl
def zer64 : Array Value := #[.int .i64 0, .int .i64 0, .int .i64 0, .int .i64 0, .int .i64 0, .int .i64 0, .int .i64 0, .int .i64 0, .int .i64 0, .int .i64 0, .int .i64 0, .int .i64 0, .int .i64 0, .int .i64 0, .int .i64 0, .int .i64 0, .int .i64 0, .int .i64 0, .int .i64 0, .int .i64 0, .int .i64 0, .int .i64 0, .int .i64 0, .int .i64 0, .int .i64 0, .int .i64 0, .int .i64 0, .int .i64 0, .int .i64 0, .int .i64 0, .int .i64 0, .int .i64 0, .int .i64 0, .int .i64 0, .int .i64 0, .int .i64 0, .int .i64 0, .int .i64 0, .int .i64 0, .int .i64 0, .int .i64 0, .int .i64 0, .int .i64 0, .int .i64 0, .int .i64 0, .int .i64 0, .int .i64 0, .int .i64 0, .int .i64 0, .int .i64 0, .int .i64 0, .int .i64 0, .int .i64 0, .int .i64 0, .int .i64 0, .int .i64 0, .int .i64 0, .int .i64 0, .int .i64 0, .int .i64 0, .int .i64 0, .int .i64 0, .int .i64 0, .int .i64 0]
theorem zer64_gv (n : Nat) (hn : n ≤ 5) : GvA (fun _ _ => 0) n 0 zer64 := ⟨rfl, fun a c ha hc _ => by
  have h1 : a ≤ 4 := by omega
  have h2 : c ≤ 4 := by omega
  refine ⟨?_, Nat.le_refl _⟩
  have : ∀ a, a ≤ 4 → ∀ c, c ≤ 4 → zer64[8 * (a + 1) + (c + 1)]? = some (.int .i64 0) := by
    intro a ha c hc
    obtain rfl | rfl | rfl | rfl | rfl : a = 0 ∨ a = 1 ∨ a = 2 ∨ a = 3 ∨ a = 4 := by omega
    all_goals
      obtain rfl | rfl | rfl | rfl | rfl : c = 0 ∨ c = 1 ∨ c = 2 ∨ c = 3 ∨ c = 4 := by omega
      all_goals rfl
  exact this a h1 c h2⟩
/-- What is so ahead of a round. -/
def StM (w wr : World) (b V T Gv L n M : Nat) (S : Sd) (K : List (List UInt8)) (sn : Snt) (Mp : Nat → Option (List UInt8)) : Prop := S.n = n ∧ JJ K M S sn Mp ∧ ((M = 0 → S = sd0 n) ∧ (M = 1 → S = (doS st1 (sd0 n)).2)) ∧ MS w wr b S (Q4 V T Gv L) ∧ AR wr V T Gv L Mp (fun i j => (sn i j).length) n M (owF S) ∧ Kept Nil w wr
theorem Nxt.st {w wr : World} {b V T Gv L n M : Nat} {S : Sd} (h : Nxt w wr b V T Gv L n M S) (h0 : (M = 0 → S = sd0 n) ∧ (M = 1 → S = (doS st1 (sd0 n)).2)) : ∃ S K sn Mp, StM w wr b V T Gv L n (M + 1) S K sn Mp := by
  obtain ⟨s, sn', Mp', K', ht, jj, hn, m, r, k⟩ := h
  refine ⟨_, _, _, _, hn, jj, ⟨fun e => (by cases e), fun e => ?_⟩, m, r, k⟩
  have e0 : M = 0 := by omega
  rw [ht.m0 e0, h0.1 e0]
set_option maxRecDepth 1000000 in
set_option maxHeartbeats 40000000 in
theorem shardMap_any (w : World) (c : Nat) (z : Int) (ao : Option Addr) (ss : List Sp) (h : SpRow w.heap.size w ao ss) (hl : (ss.length : Int) ≤ 1759218604390) (hle : ∀ s ∈ ss, s.up.length ≤ 9223372036854775807 ∧ s.vl.length ≤ 9223372036854775807) :
    Calls Try.prog 5 #[.int .i64 z, .slice ao ss.length c] w fun e w' => e = .returned (.bool true) ∧ Kept Nil w w' := by
  have HR : Hid (SpRow w.heap.size w ao ss) := h
  have HLE : Hid (∀ s ∈ ss, s.up.length ≤ 9223372036854775807 ∧ s.vl.length ≤ 9223372036854775807) := hle
  clear h hle
  go_enter Try.func5, Try.ntmps5
  by_cases hbig : 16384 < ss.length
  · have hb1 : (ss.length : Int) > 16384 := by omega
    have hb2 : (16384 : Int) < ss.length := by omega
    go_wp2
    go_ret
    exact ⟨rfl, Kept.refl _ _⟩
  · have hb1 : ¬ (ss.length : Int) > 16384 := by omega
    have hb2 : ¬ (16384 : Int) < ss.length := by omega
    obtain ⟨q, HQ0⟩ : ∃ q : Int, Hid (q = z % 4) := ⟨_, rfl⟩
    obtain ⟨q0, q4⟩ : 0 ≤ q ∧ q < 4 := by rw [HQ0.out]; exact pick_in _ _ (by omega)
    have PK := pick_is z 4 q w (by omega) (by omega) HQ0.out
    obtain ⟨n, hn⟩ : ∃ n : Nat, 2 + q = (n : Int) := ⟨(2 + q).toNat, by omega⟩
    have hn2 : 2 ≤ n ∧ n ≤ 5 := by omega
    have NW := newS_yes n w (by omega) (by omega)
    go_wp2_with fail
    go_fit PK
    rintro e _ ⟨rfl, hw9⟩
    rw [hw9]
    clear hw9 PK
    go_wp2_with fail
    go_fit NW
    rintro e w1 ⟨b, rfl, ⟨Gs, hb, ch, hs, x, hG⟩, k1⟩
    have HX : Hid (ShX Gs w1 b hb ch hs none 0 (sd0 n)) := x
    have HG : Hid (∀ i g, Gs i g → w.heap.size ≤ g) := hG
    have HK1 : Hid (Kept Nil w w1) := k1
    obtain ⟨W, hW⟩ : ∃ W, W = ((w1.alloc (.cells (arrS fun _ => none) 67)).alloc (.cells (arrB fun _ => none) 68)).alloc (.cells zer64 69) := ⟨_, rfl⟩
    obtain ⟨V, HV⟩ : ∃ A : Nat, Hid (A = w1.heap.size) := ⟨_, rfl⟩
    obtain ⟨T, HT⟩ : ∃ A : Nat, Hid (A = w1.heap.size + 1) := ⟨_, rfl⟩
    obtain ⟨Gv, HGv⟩ : ∃ A : Nat, Hid (A = w1.heap.size + 1 + 1) := ⟨_, rfl⟩
    have KW : Hid (Kept Nil w1 W) := by rw [hW]; exact (((Kept.refl _ _).alloc _).alloc _).alloc _
    have HVW : Hid (W.heap[V]? = some (.cells (arrS fun _ => none) 67 (0, 0))) := by rw [hW, HV.out]; exact blk_past (blk_past (blk_new _ _) _) _
    have HTW : Hid (W.heap[T]? = some (.cells (arrB fun _ => none) 68 (0, 0))) := by rw [hW, HT.out]; exact blk_past (blk_new1 w1 _ _) _
    have HGW : Hid (W.heap[Gv]? = some (.cells zer64 69 (0, 0))) := by
      rw [hW, HGv.out]
      have := blk_new1 (w1.alloc (.cells (arrS fun _ => none) 67)) (.cells (arrB fun _ => none) 68) (.cells zer64 69)
      rwa [show (w1.alloc (.cells (arrS fun _ => none) 67)).heap.size = w1.heap.size + 1 by simp] at this
    have HJ0 : Hid (JJ [] 0 (sd0 n) (fun _ _ => []) (fun _ => none)) := JJ.start (by omega)
    have OW := owners_any [] 0 Gs b hb ch 0 hs none (sd0 n) _ _ W (HX.out.kept KW.out) HJ0.out (by omega)
    have hsn : (sd0 n).n = n := rfl
    rw [hsn] at OW
    rw [arrS_zero, arrB_zero] at hW
    unfold zer64 at hW
    clear NW x hG k1 hsn
    go_upto_region 10 with fail
    rw [← hW, ← HGv.out, ← HT.out, ← HV.out]
    clear hW
    go_wp2_with fail
    go_fit OW
    rintro e w2 ⟨rfl, k2⟩
    go_upto_region 11 with ((with_reducible refine atStore 70 ?_); go_must (refine wpList_storeW rfl _ _ _ rfl _ (arrI (owF (sd0 n))) _ _ rfl rfl (blk_new w2 _) (by rw [arrI_size]; rfl) Try.sizeA20 (arrI_size _) (arrI_one _) ?_); intro w3 hb3 hk3 hs3)
    have k23 : Kept Nil w2 w3 := ((Kept.refl _ _).alloc _).oneN hk3 (Nat.le_refl _)
    obtain ⟨L, HL⟩ : ∃ B, Hid (B = w2.heap.size) := ⟨_, rfl⟩
    rw [← HL.out] at hb3 ⊢
    have K13 : Hid (Kept Nil w1 w3) := (KW.out.trans k2).trans k23
    have KW3 : Hid (Kept Nil W w3) := k2.trans k23
    have HWz : Hid (W.heap.size ≤ L) := by rw [HL.out]; exact k2.size
    have HA3 : Hid (AR w3 V T Gv L (fun _ => none) (fun _ _ => 0) n 0 (owF (sd0 n))) := ⟨KW3.out.block _ _ HVW.out (fun e => e), KW3.out.block _ _ HTW.out (fun e => e), ⟨_, KW3.out.block _ _ HGW.out (fun e => e), zer64_gv n hn2.2⟩, hb3⟩
    have HQ : Hid (∀ q, Q4 V T Gv L q → w1.heap.size ≤ q) := by
      have h1 := HV.out
      have h2 := HT.out
      have h3 := HGv.out
      have h4 := HWz.out
      have h5 := KW.out.size
      rintro q (e | e | e | e) <;> omega
    have HM3 : Hid (MS w w3 b (sd0 n) (Q4 V T Gv L)) := by
      have y := HX.out.kept K13.out
      refine ⟨fun g => ∃ i, Gs i g, y.m (fun i g hg => ⟨i, hg⟩), ?_⟩
      rintro g ⟨i, hi⟩
      exact ⟨HG.out i g hi, y.lt i g hi, fun e => by have := HQ.out g e; have := HX.out.lt i g hi; omega⟩
    have HQw : Hid (∀ q, Q4 V T Gv L q → w.heap.size ≤ q) := fun q hq => Nat.le_trans HK1.out.size (HQ.out q hq)
    have HK3 : Hid (Kept Nil w w3) := HK1.out.trans K13.out
    have HST : Hid (∃ S K sn Mp, StM w w3 b V T Gv L n 0 S K sn Mp) := ⟨_, _, _, _, rfl, HJ0.out, ⟨fun _ => rfl, fun e => by cases e⟩, HM3.out, HA3.out, HK3.out⟩
    have HN2 : Hid (2 ≤ n ∧ n ≤ 5) := hn2
    clear OW k2 k23 hb3 hk3 hs3 K13 KW3 HWz HA3 HM3 HK3 HJ0 HX HG KW HVW HTW HGW HV HT HGv HL HQ0 hn q0 q4 hn2 HK1
    go_upto_block 0 with fail
    go_cut [4, 12, 13, 14, 15, 16, 17, 18, 19, 20, 21, 22] from 54 to 232 (fun _ _ _ _ _ _ _ _ _ _ _ _ wc => Hid (∃ S K sn Mp, StM w wc b V T Gv L n (ss.length + 2) S K sn Mp))
    case first =>
      go_wp2_with fail
      go_loopw [13] (fun u wr => ∃ M : Nat, M ≤ ss.length + 2 ∧ u = .int .i64 ((M : Int) - 2) ∧ Hid (∃ S K sn Mp, StM w wr b V T Gv L n M S K sn Mp)) (fun u _ => ((ss.length : Int) - intOf u).toNat)
      case atStart => exact ⟨0, Nat.zero_le _, by first | rfl | simp, HST.out⟩
      case round =>
        obtain ⟨M, hM, rfl, HSr⟩ := hrel
        clear HST
        by_cases hlt : M < ss.length + 2
        · have g1 : (M : Int) - 2 < ss.length := by omega
          have g2 : (M : Int) - 2 < 1048576 := by omega
          obtain ⟨S, K, sn, Mp, hSn, jj, h0, m, r, k⟩ := HSr.out
          have HN9 : Hid (S.n = n ∧ 2 ≤ n ∧ n ≤ 5 ∧ M ≤ 20000) := ⟨hSn, HN2.out.1, HN2.out.2, by omega⟩
          have HJ : Hid (JJ K M S sn Mp) := jj
          have HS0 : Hid ((M = 0 → S = sd0 n) ∧ (M = 1 → S = (doS st1 (sd0 n)).2)) := h0
          have HMr : Hid (MS w wr b S (Q4 V T Gv L)) := m
          have HAr : Hid (AR wr V T Gv L Mp (fun i j => (sn i j).length) n M (owF S)) := r
          have HKr : Hid (Kept Nil w wr) := k
          clear hSn jj h0 m r k HSr
          go_upto_region 15 with ((with_reducible refine atStore 74 ?_); go_must (refine wpList_storeW rfl _ _ _ rfl _ (stC st1) _ _ rfl rfl (blk_new wr _) rfl Try.sizeSt rfl (stB_one _ _ _ _ _ _ _) ?_); intro w2 hb2 hk2 hs2)
          have k02 : Kept Nil wr w2 := ((Kept.refl _ _).alloc _).oneN hk2 (Nat.le_refl _)
          obtain ⟨XB, HXe⟩ : ∃ B, Hid (B = wr.heap.size) := ⟨_, rfl⟩
          rw [← HXe.out] at hb2 ⊢
          have HX2 : Hid (w2.heap[XB]? = some (.cells (stC st1) 74 (0, 0))) := hb2
          have HM2 : Hid (MS w w2 b S (fun q => Q4 V T Gv L q ∨ q = XB)) := HMr.out.add k02 (by rw [HXe.out]; exact Nat.le_refl _)
          have HA2 : Hid (AR w2 V T Gv L Mp (fun i j => (sn i j).length) n M (owF S)) := HAr.out.kept k02 (fun _ _ _ e => e)
          have HK2 : Hid (Kept Nil w w2) := HKr.out.trans k02
          have HXw : Hid (w.heap.size ≤ XB) := by rw [HXe.out]; exact HKr.out.size
          clear hb2 hk2 hs2 k02 HXe HMr HAr HKr
          by_cases hM1 : M = 1
          · have e1 : ((M : Int) - 2 == -1) = true := by rw [hM1]; rfl
            have g0 : ¬ (0 : Int) ≤ (M : Int) - 2 := by omega
            have g00 : ¬ (M : Int) - 2 ≥ 0 := by omega
            have HTs : Hid (Tam M n st2) := by rw [hM1]; exact tam1 HN2.out.1
            clear hM1
            go_upto_if 69 with ((with_reducible refine atStore 74 ?_); go_must (refine wpList_storeW rfl _ _ _ rfl _ (stC st2) _ _ rfl rfl HX2.out rfl Try.sizeSt rfl (stB_one _ _ _ _ _ _ _) ?_); intro w3 hb3 hk3 hs3)
            go_cut [] from 54 to 75 (fun wc => ∃ s kk, Hid (Tam M n s) ∧ Hid (kk < 20 ∧ s.ky = lt kk) ∧ Hid (wc.heap[XB]? = some (.cells (stC s) 74 (0, 0))) ∧ Hid (MS w wc b S (fun q => Q4 V T Gv L q ∨ q = XB)) ∧ Hid (AR wc V T Gv L Mp (fun i j => (sn i j).length) n M (owF S)) ∧ Hid (Kept Nil w wc))
            case first =>
              go_wp2
              go_meet
              exact ⟨st2, 0, HTs.out, ⟨by decide, rfl⟩, hb3, HM2.out.one hk3 (.inr rfl), HA2.out.kept hk3 (fun q _ hq e => HA2.out.ne HX2.out (by decide) (by have e : q = XB := e; rw [← e]; exact hq)), HK2.out.oneN hk3 HXw.out⟩
            case rest =>
              rename World => wc
              obtain ⟨s, kk, HTs, HKK2, HX9, HM9, HA9, HK9⟩ := hcut
              apply_assumption
              refine sTail19 w wc b V T Gv L n M S K sn Mp s kk XB _ _ _ _ _ _ _ _ _ _ _ _ _ _ _ _ _ _ _ _ _ _ _ _ _ _ _ _ _ _ _ _ _ _ _ _ _ _ _ _ _ _ _ _ _ _ _ _ _ _ _ _ _ _ _ _ _ _ _ _ _ _ _ _ _ _ _ _ _ _ _ _ _ _ _ _ _ _ _ _ _ _ _ _ _ _ _ _ _ _ _ _ _ _ _ _ _ _ _ _ _ _ _ _ _ _ _ _ _ _ _ _ _ _ _ _ _ _ _ _ _ _ _ _ _ _ _ _ _ _ _ _ _ _ _ _ _ _ _ _ _ _ _ _ _ _ _ _ _ _ _ _ _ _ _ _ _ _ _ _ _ _ _ _ _ _ _ _ _ _ _ _ _ _ _ _ _ _ _ _ _ _ _ _ _ _ _ _ _ _ _ _ _ _ _ _ _ _ _ _ _ _ _ _ _ _ _ _ _ _ _ _ _ _ _ _ _ _ _ _ _ _ _ _ _ _ _ _ _ _ _ _ _ _ _ _ _ _ _ _ _ _ _ _ _ _ _ _ _ _ _ _ _ _ _ _ _ _ _ _ _ _ _ _ _ _ _ _ _ _ _ _ _ _ _ _ _ _ _ _ _ _ _ _ _ _ _ _ _ _ _ _ _ _ _ _ _ _ _ _ _ _ _ _ _ _ _ _ _ _ _ _ _ _ _ _ _ _ _ _ _ ?_ HN9 HQw HK9 HS0 HTs HJ HKK2 HM9 HX9 HA9
              intro u12 u15 u16 u17 u18 u19 u20 u21 u22 u76 u77 u78 u79 u80 u81 u82 u83 u84 u85 u86 u87 u88 u89 u90 u91 u92 u93 u94 u95 u96 u97 u98 u99 u100 u101 u102 u103 u104 u105 u106 u107 u108 u109 u110 u111 u112 u113 u114 u115 u116 u117 u118 u119 u120 u121 u122 u123 u124 u125 u126 u127 u128 u129 u130 u131 u132 u133 u134 u135 u136 u137 u138 u139 u140 u141 u142 u143 u144 u145 u146 u147 u148 u149 u150 u151 u152 u153 u154 u155 u156 u157 u158 u159 u160 u161 u162 u163 u164 u165 u166 u167 u168 u169 u170 u171 u172 u173 u174 u175 u176 u177 u178 u179 u180 u181 u182 u183 u184 u185 u186 u187 u188 u189 u190 u191 u192 u193 u194 u195 u196 u197 u198 u199 u200 u201 u202 u203 u204 u205 u206 u207 u208 u209 u210 u211 u212 u213 u214 u215 u216 u217 u218 u219 u220 u221 u222 u223 u224 u225 u226 u227 u228 u229 u230 u231 u232 wc2 hE
              have HE2 : Hid (∃ S K sn Mp, StM w wc2 b V T Gv L n (M + 1) S K sn Mp) := hE.out.st HS0.out
              clear hE
              apply_assumption
              go_wp2
              go_roundw
              case rel => exact ⟨M + 1, by omega, by first | rfl | (congr 1; omega), HE2.out⟩
              case measure => simp [intOf]; omega
          · have e1 : ((M : Int) - 2 == -1) = false := by simp; omega
            by_cases hM0 : M = 0
            · have g0 : ¬ (0 : Int) ≤ (M : Int) - 2 := by omega
              have g00 : ¬ (M : Int) - 2 ≥ 0 := by omega
              have HTs : Hid (Tam M n st1) := by rw [hM0]; exact tam0 HN2.out.1
              clear hM0 hM1
              go_upto_if 69 with fail
              go_cut [] from 54 to 75 (fun wc => ∃ s kk, Hid (Tam M n s) ∧ Hid (kk < 20 ∧ s.ky = lt kk) ∧ Hid (wc.heap[XB]? = some (.cells (stC s) 74 (0, 0))) ∧ Hid (MS w wc b S (fun q => Q4 V T Gv L q ∨ q = XB)) ∧ Hid (AR wc V T Gv L Mp (fun i j => (sn i j).length) n M (owF S)) ∧ Hid (Kept Nil w wc))
              case first =>
                go_wp2
                go_meet
                exact ⟨st1, 0, HTs.out, ⟨by decide, rfl⟩, HX2.out, HM2.out, HA2.out, HK2.out⟩
              case rest =>
                rename World => wc
                obtain ⟨s, kk, HTs, HKK2, HX9, HM9, HA9, HK9⟩ := hcut
                apply_assumption
                refine sTail19 w wc b V T Gv L n M S K sn Mp s kk XB _ _ _ _ _ _ _ _ _ _ _ _ _ _ _ _ _ _ _ _ _ _ _ _ _ _ _ _ _ _ _ _ _ _ _ _ _ _ _ _ _ _ _ _ _ _ _ _ _ _ _ _ _ _ _ _ _ _ _ _ _ _ _ _ _ _ _ _ _ _ _ _ _ _ _ _ _ _ _ _ _ _ _ _ _ _ _ _ _ _ _ _ _ _ _ _ _ _ _ _ _ _ _ _ _ _ _ _ _ _ _ _ _ _ _ _ _ _ _ _ _ _ _ _ _ _ _ _ _ _ _ _ _ _ _ _ _ _ _ _ _ _ _ _ _ _ _ _ _ _ _ _ _ _ _ _ _ _ _ _ _ _ _ _ _ _ _ _ _ _ _ _ _ _ _ _ _ _ _ _ _ _ _ _ _ _ _ _ _ _ _ _ _ _ _ _ _ _ _ _ _ _ _ _ _ _ _ _ _ _ _ _ _ _ _ _ _ _ _ _ _ _ _ _ _ _ _ _ _ _ _ _ _ _ _ _ _ _ _ _ _ _ _ _ _ _ _ _ _ _ _ _ _ _ _ _ _ _ _ _ _ _ _ _ _ _ _ _ _ _ _ _ _ _ _ _ _ _ _ _ _ _ _ _ _ _ _ _ _ _ _ _ _ _ _ _ _ _ _ _ _ _ _ _ _ _ _ _ _ _ _ _ _ _ _ _ _ _ _ _ _ ?_ HN9 HQw HK9 HS0 HTs HJ HKK2 HM9 HX9 HA9
                intro u12 u15 u16 u17 u18 u19 u20 u21 u22 u76 u77 u78 u79 u80 u81 u82 u83 u84 u85 u86 u87 u88 u89 u90 u91 u92 u93 u94 u95 u96 u97 u98 u99 u100 u101 u102 u103 u104 u105 u106 u107 u108 u109 u110 u111 u112 u113 u114 u115 u116 u117 u118 u119 u120 u121 u122 u123 u124 u125 u126 u127 u128 u129 u130 u131 u132 u133 u134 u135 u136 u137 u138 u139 u140 u141 u142 u143 u144 u145 u146 u147 u148 u149 u150 u151 u152 u153 u154 u155 u156 u157 u158 u159 u160 u161 u162 u163 u164 u165 u166 u167 u168 u169 u170 u171 u172 u173 u174 u175 u176 u177 u178 u179 u180 u181 u182 u183 u184 u185 u186 u187 u188 u189 u190 u191 u192 u193 u194 u195 u196 u197 u198 u199 u200 u201 u202 u203 u204 u205 u206 u207 u208 u209 u210 u211 u212 u213 u214 u215 u216 u217 u218 u219 u220 u221 u222 u223 u224 u225 u226 u227 u228 u229 u230 u231 u232 wc2 hE
                have HE2 : Hid (∃ S K sn Mp, StM w wc2 b V T Gv L n (M + 1) S K sn Mp) := hE.out.st HS0.out
                clear hE
                apply_assumption
                go_wp2
                go_roundw
                case rel => exact ⟨M + 1, by omega, by first | rfl | (congr 1; omega), HE2.out⟩
                case measure => simp [intOf]; omega
            · have g0 : (0 : Int) ≤ (M : Int) - 2 := by omega
              have g00 : (M : Int) - 2 ≥ 0 := by omega
              go_upto_if 69 with fail
              go_cut [] from 54 to 75 (fun wc => ∃ s kk, Hid (Tam M n s) ∧ Hid (kk < 20 ∧ s.ky = lt kk) ∧ Hid (wc.heap[XB]? = some (.cells (stC s) 74 (0, 0))) ∧ Hid (MS w wc b S (fun q => Q4 V T Gv L q ∨ q = XB)) ∧ Hid (AR wc V T Gv L Mp (fun i j => (sn i j).length) n M (owF S)) ∧ Hid (Kept Nil w wc))
              case first =>
                obtain ⟨j, hj⟩ : ∃ j : Nat, (M : Int) - 2 = (j : Int) := ⟨M - 2, by omega⟩
                have hjl : j < ss.length := by omega
                have hji : (j : Int) < ss.length := by omega
                obtain ⟨ad, e, _, hc⟩ := (HR.out.kept HK2.out) j hjl
                subst e
                have HC : Hid (∀ (r : Nat) v, (stC ss[j]).toList[r]? = some v → w2.cell? ((ad.add (j * 7)).add r) = some v) := hc
                have hLk := HLE.out _ (List.getElem_mem hjl)
                have SS := shardStep_any n ss[j] w2 (by have := HN2.out; omega) (by have := HN2.out; omega) hLk
                have hM2 : 2 ≤ M := by omega
                clear hc hLk
                go_wp2_with ((with_reducible refine atLoad 74 ?_); go_must (refine wpList_loadA rfl _ _ rfl _ rfl _ _ HC.out Try.underlying74 rfl Try.sizeSt ?_))
                go_fit SS
                rintro e w3 ⟨⟨s, rfl, ht⟩, k3⟩
                have HTs : Hid (Tam M n s) := ht.tam (by have := HN2.out; omega) hM2
                have HX3 : Hid (w3.heap[XB]? = some (.cells (stC st1) 74 (0, 0))) := k3.block _ _ HX2.out (fun e => e)
                have HM3 : Hid (MS w w3 b S (fun q => Q4 V T Gv L q ∨ q = XB)) := HM2.out.kept k3
                have HA3 : Hid (AR w3 V T Gv L Mp (fun i j => (sn i j).length) n M (owF S)) := HA2.out.kept k3 (fun _ _ _ e => e)
                have HK3 : Hid (Kept Nil w w3) := HK2.out.trans k3
                clear SS ht k3 HC
                go_wp2_with ((with_reducible refine atStore 74 ?_); go_must (refine wpList_storeW rfl _ _ _ rfl _ (stC s) _ _ rfl rfl HX3.out rfl Try.sizeSt rfl (stB_one _ _ _ _ _ _ _) ?_); intro w4 hb4 hk4 hs4)
                rw [← hj]
                go_meet
                obtain ⟨kk, hkk, hky⟩ := HTs.out.ky
                exact ⟨s, kk, HTs.out, ⟨hkk, hky⟩, hb4, HM3.out.one hk4 (.inr rfl), HA3.out.kept hk4 (fun q _ hq e => HA3.out.ne HX3.out (by decide) (by have e : q = XB := e; rw [← e]; exact hq)), HK3.out.oneN hk4 HXw.out⟩
              case rest =>
                rename World => wc
                obtain ⟨s, kk, HTs, HKK2, HX9, HM9, HA9, HK9⟩ := hcut
                apply_assumption
                refine sTail19 w wc b V T Gv L n M S K sn Mp s kk XB _ _ _ _ _ _ _ _ _ _ _ _ _ _ _ _ _ _ _ _ _ _ _ _ _ _ _ _ _ _ _ _ _ _ _ _ _ _ _ _ _ _ _ _ _ _ _ _ _ _ _ _ _ _ _ _ _ _ _ _ _ _ _ _ _ _ _ _ _ _ _ _ _ _ _ _ _ _ _ _ _ _ _ _ _ _ _ _ _ _ _ _ _ _ _ _ _ _ _ _ _ _ _ _ _ _ _ _ _ _ _ _ _ _ _ _ _ _ _ _ _ _ _ _ _ _ _ _ _ _ _ _ _ _ _ _ _ _ _ _ _ _ _ _ _ _ _ _ _ _ _ _ _ _ _ _ _ _ _ _ _ _ _ _ _ _ _ _ _ _ _ _ _ _ _ _ _ _ _ _ _ _ _ _ _ _ _ _ _ _ _ _ _ _ _ _ _ _ _ _ _ _ _ _ _ _ _ _ _ _ _ _ _ _ _ _ _ _ _ _ _ _ _ _ _ _ _ _ _ _ _ _ _ _ _ _ _ _ _ _ _ _ _ _ _ _ _ _ _ _ _ _ _ _ _ _ _ _ _ _ _ _ _ _ _ _ _ _ _ _ _ _ _ _ _ _ _ _ _ _ _ _ _ _ _ _ _ _ _ _ _ _ _ _ _ _ _ _ _ _ _ _ _ _ _ _ _ _ _ _ _ _ _ _ _ _ _ _ _ _ _ ?_ HN9 HQw HK9 HS0 HTs HJ HKK2 HM9 HX9 HA9
                intro u12 u15 u16 u17 u18 u19 u20 u21 u22 u76 u77 u78 u79 u80 u81 u82 u83 u84 u85 u86 u87 u88 u89 u90 u91 u92 u93 u94 u95 u96 u97 u98 u99 u100 u101 u102 u103 u104 u105 u106 u107 u108 u109 u110 u111 u112 u113 u114 u115 u116 u117 u118 u119 u120 u121 u122 u123 u124 u125 u126 u127 u128 u129 u130 u131 u132 u133 u134 u135 u136 u137 u138 u139 u140 u141 u142 u143 u144 u145 u146 u147 u148 u149 u150 u151 u152 u153 u154 u155 u156 u157 u158 u159 u160 u161 u162 u163 u164 u165 u166 u167 u168 u169 u170 u171 u172 u173 u174 u175 u176 u177 u178 u179 u180 u181 u182 u183 u184 u185 u186 u187 u188 u189 u190 u191 u192 u193 u194 u195 u196 u197 u198 u199 u200 u201 u202 u203 u204 u205 u206 u207 u208 u209 u210 u211 u212 u213 u214 u215 u216 u217 u218 u219 u220 u221 u222 u223 u224 u225 u226 u227 u228 u229 u230 u231 u232 wc2 hE
                have HE2 : Hid (∃ S K sn Mp, StM w wc2 b V T Gv L n (M + 1) S K sn Mp) := hE.out.st HS0.out
                clear hE
                apply_assumption
                go_wp2
                go_roundw
                case rel => exact ⟨M + 1, by omega, by first | rfl | (congr 1; omega), HE2.out⟩
                case measure => simp [intOf]; omega
        · have g1 : ¬ (M : Int) - 2 < ss.length := by omega
          have hMe : M = ss.length + 2 := by omega
          go_wp2
          go_meet
          have h9 := HSr.out
          rw [hMe] at h9
          exact h9
    case rest =>
      rename World => wc
      obtain ⟨S, K, sn, Mp, hSn, jj, _, m, r, k⟩ := hcut.out
      have HJ9 : Hid (JJ K (ss.length + 2) S sn Mp) := jj
      have HM9 : Hid (MS w wc b S (Q4 V T Gv L)) := m
      have HA9 : Hid (AR wc V T Gv L Mp (fun i j => (sn i j).length) n (ss.length + 2) (owF S)) := r
      have HK9 : Hid (Kept Nil w wc) := k
      have HN9 : Hid (S.n = n ∧ 2 ≤ n ∧ n ≤ 5 ∧ ss.length + 2 ≤ 20000) := ⟨hSn, HN2.out.1, HN2.out.2, by omega⟩
      clear jj m r k hSn
      apply_assumption
      exact sTail52 w wc b V T Gv L n (ss.length + 2) S K sn Mp (fun i j => (sn i j).length) (owF S) _ _ _ _ _ _ _ _ _ _ _ _ _ _ _ _ _ _ _ _ _ _ _ _ _ _ _ _ _ _ _ _ _ _ _ _ _ _ _ _ _ _ _ _ _ _ _ _ _ _ _ _ _ _ _ _ _ _ _ _ _ _ _ _ _ _ _ _ _ _ _ _ _ _ _ _ _ _ _ _ _ _ _ _ _ _ _ _ _ _ _ _ _ _ _ _ _ _ _ _ _ _ _ _ _ _ _ _ _ _ _ _ _ _ _ _ _ _ _ _ _ _ _ _ _ _ _ _ _ _ _ _ _ _ _ _ _ _ _ _ _ _ _ _ _ _ _ _ _ _ _ _ _ _ _ _ _ _ _ _ _ _ _ _ _ _ _ _ _ _ _ _ _ _ _ _ _ _ _ _ _ _ _ _ _ _ _ _ _ _ _ _ _ _ _ _ _ _ _ _ _ _ _ _ _ _ _ _ _ _ _ _ _ _ _ _ _ _ _ _ _ _ _ _ _ _ _ _ _ _ _ _ _ _ _ _ _ _ _ _ _ _ _ _ _ _ _ _ _ _ _ _ _ _ _ _ _ _ _ _ _ _ _ _ _ _ _ _ _ _ _ _ _ _ _ _ _ _ _ _ _ _ _ _ _ _ _ _ _ _ _ _ _ _ _ _ _ _ _ _ _ _ _ _ _ _ _ _ _ _ _ _ _ _ _ _ _ _ _ _ _ _ HN9 HQw HK9 HJ9 HM9 HA9
end Go.Proofs.Ytpfgnhockfofhaa
