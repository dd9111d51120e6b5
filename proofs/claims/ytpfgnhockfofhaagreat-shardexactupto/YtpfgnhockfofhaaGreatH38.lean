/-
  Joined: WSs4, WSsB, WSsL, WShO.
-/
import Derived.Test.YtpfgnhockfofhaaGreatH24
import Derived.Test.YtpfgnhockfofhaaGreatH27
import Derived.Test.YtpfgnhockfofhaaGreatH36
import Derived.Test.YtpfgnhockfofhaaGreatH37
import Derived.BigQuiet
import Derived.Test.YtpfgnhockfofhaaGreatH28
/-
  The document's shards: a host gives a range.
-/
namespace Go.Proofs.YtpfgnhockfofhaaGreat
open Go.RowKit

def inF (fr up : List UInt8) (l : List Pr) : List Pr := l.filter fun y => inR y.k fr up
def ouF (fr up : List UInt8) (l : List Pr) : List Pr := l.filter fun y => !inR y.k fr up
theorem inF_next {fr up : List UInt8} {l : List Pr} {k : Nat} (h : k < l.length) : inF fr up (l.take (k + 1)) = inF fr up (l.take k) ++ (if inR l[k].k fr up = true then [l[k]] else []) := by
  unfold inF
  rw [List.take_succ_eq_append_getElem h, List.filter_append]
  cases e : inR l[k].k fr up <;> simp [e]
theorem ouF_next {fr up : List UInt8} {l : List Pr} {k : Nat} (h : k < l.length) : ouF fr up (l.take (k + 1)) = ouF fr up (l.take k) ++ (if inR l[k].k fr up = true then [] else [l[k]]) := by
  unfold ouF
  rw [List.take_succ_eq_append_getElem h, List.filter_append]
  cases e : inR l[k].k fr up <;> simp [e]
theorem end_ge {up : List UInt8} {ps : List Pr} (hs : Srt ps) {x : Pr} (h : x ∈ ps.drop (endP up ps)) : (up.isEmpty || lessB x.k up) = false := by
  unfold endP at h
  split at h
  · rw [List.drop_length] at h; cases h
  · rename_i hu
    have h1 := drop_low hs h
    rw [h1]
    cases up with
    | nil => exact absurd rfl hu
    | cons _ _ => rfl
theorem split3 {fr up : List UInt8} {ps : List Pr} (h : lowP fr ps ≤ endP up ps) : ps = ps.take (lowP fr ps) ++ (midP fr up ps ++ ps.drop (endP up ps)) := by
  unfold midP
  have h1 : ps.drop (lowP fr ps) = (ps.drop (lowP fr ps)).take (endP up ps - lowP fr ps) ++ (ps.drop (lowP fr ps)).drop (endP up ps - lowP fr ps) := (List.take_append_drop _ _).symm
  rw [List.drop_drop, show lowP fr ps + (endP up ps - lowP fr ps) = endP up ps by omega] at h1
  rw [← h1, List.take_append_drop]
theorem inR_low {fr up : List UInt8} {x : Pr} (h : lessB x.k fr = true) : inR x.k fr up = false := by unfold inR; rw [h]; rfl
theorem inR_high {fr up : List UInt8} {x : Pr} (h : (up.isEmpty || lessB x.k up) = false) : inR x.k fr up = false := by unfold inR; rw [h, Bool.and_false]
theorem inF_is {fr up : List UInt8} {ps : List Pr} (hs : Srt ps) (h : someR fr up = true) : inF fr up ps = midP fr up ps := by
  have hl := first_end hs h
  unfold inF
  conv => lhs; rw [split3 hl]
  rw [List.filter_append, List.filter_append, List.filter_eq_nil_iff.2 (fun y hy => ?_), List.filter_eq_self.2 (fun y hy => mid_in hs hy), List.filter_eq_nil_iff.2 (fun y hy => ?_)]
  · simp
  · rw [inR_high (end_ge hs hy)]; decide
  · rw [inR_low (take_low hy)]; decide
theorem ouF_is {fr up : List UInt8} {ps : List Pr} (hs : Srt ps) (h : someR fr up = true) : ouF fr up ps = delI (lowP fr ps) (endP up ps) ps := by
  have hl := first_end hs h
  unfold ouF delI
  conv => lhs; rw [split3 hl]
  rw [List.filter_append, List.filter_append, List.filter_eq_self.2 (fun y hy => ?_), List.filter_eq_nil_iff.2 (fun y hy => ?_), List.filter_eq_self.2 (fun y hy => ?_)]
  · simp
  · rw [inR_high (end_ge hs hy)]; rfl
  · rw [mid_in hs hy]; decide
  · rw [inR_low (take_low hy)]; rfl
theorem pack_one {fr up : List UInt8} (l : List Pr) (x : Pr) : packB fr up (l ++ [x]) = packB fr up l ++ encFrame x.k ++ encFrame x.v := by
  unfold packB frB
  rw [frP_app, show fr :: up :: (frP l ++ frP [x]) = (fr :: up :: frP l) ++ [x.k, x.v] by simp [frP], frames_app, show frames [x.k, x.v] = encFrame x.k ++ encFrame x.v by simp [frames], List.append_assoc]
/-- A host's items are others, in good blocks. -/
theorem HyX.itemsG {G : Nat → Prop} {w : World} {b rb : Nat} {id : Int} {ay : Nat → Option Addr} {cy : Nat → Nat} {ai : Option Addr} {ci gk ck : Nat} {h : Hd} (x : HyX G w b rb id ay cy ai ci gk ck h) {a : Option Addr} {c : Nat} {qs : List Pr} (o : OwnIt 0 w a c qs) (hg : ∀ g, (Value.slice a qs.length c).ownBlock = some g → G g) :
    HyX G (w.setCell ⟨b, 1, none⟩ (.slice a qs.length c)) b rb id ay cy a c gk ck { h with it := qs } ∧ Kept (TG G) w (w.setCell ⟨b, 1, none⟩ (.slice a qs.length c)) := by
  have hk := x.ts (Kept.refl _ _) 1 (.slice a qs.length c)
  exact ⟨⟨blk_set x.ho 1 _, x.gb, x.gr, x.rl.keptX hk (fun _ => ts_no (by decide)) (fun q _ _ => ts_no (by decide)), own_keptG o hk (fun g _ _ => ts_no (by decide)), hg, own_keptG x.kb hk (fun g _ _ => ts_no (by decide)), x.gk⟩, hk.mono (fun q _ e => by rw [e.1]; exact x.gb)⟩
set_option maxRecDepth 100000 in
set_option maxHeartbeats 8000000 in
theorem giveY_any (K : List (List UInt8)) (M dst : Nat) (G : Nat → Prop) (b : Nat) (id : Int) (h : Hd) (fr up : List UInt8) (w : World) (x : HyM G w b id h) (ok : OkH K M h) (hKM : K.length ≤ M) (hM : M ≤ 1900000) (hf : fr.length ≤ 16) (hu : up.length ≤ 16) (hd : dst < 10) (hoth : isOth id dst = true) :
    Calls Tryz.prog 24 #[.pointer (some ⟨b, 0, none⟩), .string (bs fr), .string (bs up), .int .i64 dst] w fun e w' => e = .returned (.int .i64 (giveHd id fr up dst h).1) ∧ HyM (GN G w) w' b id (giveHd id fr up dst h).2 ∧ Kept (TG G) w w' := by
  obtain ⟨rb, ay, cy, ai, ci, gk, ck, x⟩ := x
  obtain ⟨i0, hi, hz0, hz1, hz2⟩ := info_parts Tryz.infoOwnIt
  obtain ⟨v1, v2, v3⟩ := vb_facts ok.kv
  have hkl := ok.kl
  have HSh : Hid (Sh h.kb) := (valid_sh.1 ok.kv).1
  have HOK : Hid (OkH K M h) := ok
  have hil : h.it.length ≤ M := Nat.le_trans ok.len hKM
  obtain ⟨G1, HG1⟩ : ∃ G1 : Nat → Prop, Hid (G1 = GN G w) := ⟨_, rfl⟩
  have HX : Hid (HyX G1 w b rb id ay cy ai ci gk ck h) := by rw [HG1.out]; exact x.up (fun g hg => .inl hg)
  have HNEW : Hid (∀ g, w.heap.size ≤ g → G1 g) := fun g hg => by rw [HG1.out]; exact .inr hg
  have HUP : Hid (∀ wk : World, w.heap.size ≤ wk.heap.size → ∀ g, GN G1 wk g → G1 g) := fun wk hwk g hg => by
    rw [HG1.out] at hg ⊢
    exact gn_gn hwk hg
  have HEND : Hid (∀ wk : World, Kept (TG G1) w wk → Kept (TG G) w wk) := fun wk hk => Kept.next (Kept.refl _ _) (by rw [HG1.out] at hk; exact hk)
  rw [← HG1.out]
  have HHO : Hid (w.heap[b]? = some (.cells #[.pointer (some ⟨rb, 0, none⟩), .slice ai h.it.length ci, .slice (some ⟨gk, 0, none⟩) h.kb.length ck] 66 (0, 0))) := x.ho
  have HA := hasAll_any w.heap.size ck ⟨gk, 0, none⟩ h.kb fr up id w.drew ((x.kept (Kept.refl _ _).drew).bounds v3) (by omega)
  rw [← has_is HSh.out] at HA
  have c0 : w.cell? ⟨b, 0, none⟩ = some (.pointer (some ⟨rb, 0, none⟩)) := blk_at HHO.out 0 rfl
  have c2 : w.cell? ⟨b, 2, none⟩ = some (.slice (some ⟨gk, 0, none⟩) h.kb.length ck) := blk_at HHO.out 2 rfl
  have ci' : w.cell? ⟨rb, 0, none⟩ = some (.int .i64 id) := by obtain ⟨cells, hc⟩ := x.rl.cl; rw [blk_cell hc.blk]; exact hc.c0
  have hbl : b < w.heap.size := lt_of_block HHO.out
  have hrl : rb < w.heap.size := World.block_lt_of_cell? w _ ci'
  obtain ⟨hz, HZ⟩ : ∃ hz, Hid (hz = hasB h.kb fr up id) := ⟨_, rfl⟩
  rw [← HZ.out] at HA
  obtain ⟨rs, HRS⟩ : ∃ rs, Hid (rs = giveHd id fr up dst h) := ⟨_, rfl⟩
  rw [← HRS.out]
  clear x HG1
  go_enter Tryz.func24, Tryz.ntmps24
  go_upto_region 1 with fail
  go_cut [9] (fun x w5 => x = .bool hz ∧ Hid (Kept Nil w w5))
  case first =>
    go_region_with (go_at_call 47; go_must (go_fit HA); rintro e w2 ⟨rfl, k2⟩; have K2 : Hid (Kept Nil w w2) := ((Kept.refl _ _).drew.trans k2))
    all_goals
      go_wp2
      go_meet
      exact ⟨rfl, K2.out⟩
  case rest =>
    rename World => w5
    obtain ⟨rfl, HK5⟩ := hcut
    have HX5 : Hid (HyX G1 w5 b rb id ay cy ai ci gk ck h) := HX.out.kept HK5.out
    clear HA c0 c2 ci'
    apply_assumption
    cases hz with
    | false =>
      have HR1 : Hid (rs = (14, h)) := by show rs = _; rw [HRS.out]; unfold giveHd; rw [if_pos HZ.out.symm]
      go_wp2
      go_ret
      rw [HR1.out]
      exact ⟨rfl, HX5.out.m, HEND.out _ HK5.out.nilG⟩
    | true =>
      have HSM : Hid (someR fr up = true) := by
        cases hs : someR fr up
        · have := HZ.out; unfold hasB at this; rw [hs] at this; cases this
        · rfl
      have HBK : Hid (hasB h.kb fr up id = true) := HZ.out.symm
      have F1 := refFrame_ok fr w5 (by omega)
      go_wp2_with fail
      go_fit F1
      rintro e w6 ⟨rfl, k6⟩
      have F2 := refFrame_ok up w6 (by omega)
      go_wp2_with fail
      go_fit F2
      rintro e w7 ⟨rfl, k7⟩
      have HK7 : Hid (Kept Nil w w7) := (HK5.out.trans k6).trans k7
      have HX7 : Hid (HyX G1 w7 b rb id ay cy ai ci gk ck h) := (HX5.out.kept k6).kept k7
      clear F1 F2 k6 k7
      have sz1 : (bs (encFrame fr)).size ≤ 65546 := by rw [bs_size]; exact encFrame_max (by omega)
      have sz2 : (bs (encFrame up)).size ≤ 65546 := by rw [bs_size]; exact encFrame_max (by omega)
      have HP0 : Hid (bs (encFrame fr) ++ bs (encFrame up) = bs (packB fr up (inF fr up (h.it.take 0)))) := by show _ = _; rw [bs_append, List.take_zero]; unfold inF; rw [List.filter_nil, pack_nil]; rfl
      obtain ⟨B, HB⟩ : ∃ B : Nat, Hid (B = w7.heap.size) := ⟨_, rfl⟩
      obtain ⟨n, HN⟩ : ∃ n, Hid (n = h.it.length) := ⟨_, rfl⟩
      have hn : n ≤ 1900000 := by rw [HN.out]; omega
      go_wp2
      go_loopw [14, 15, 16] (fun u v q wr => ∃ k m c : Nat, ∃ a, ∃ X, k ≤ n ∧ Hid (X = bs (packB fr up (inF fr up (h.it.take k)))) ∧ Hid (m = (ouF fr up (h.it.take k)).length) ∧ u = .string X ∧ v = .slice a m c ∧ q = .int .i64 k ∧ Hid (OwnIt B wr a c (ouF fr up (h.it.take k))) ∧ Hid (Kept Nil w7 wr)) (fun _ _ q _ => n - (intOf q).toNat)
      case atStart => exact ⟨0, 0, 0, none, _, Nat.zero_le _, HP0.out, rfl, rfl, rfl, rfl, World.ownsRow_nil _ _ _ _, Kept.refl _ _⟩
      case round =>
        obtain ⟨k, m, c, a, X, hk, HXe, HM, rfl, rfl, rfl, HO, HK⟩ := hrel
        have HXr : Hid (HyX G1 wr b rb id ay cy ai ci gk ck h) := HX7.out.kept HK.out
        have HBr : Hid (wr.heap[b]? = some (.cells #[.pointer (some ⟨rb, 0, none⟩), .slice ai n ci, .slice (some ⟨gk, 0, none⟩) h.kb.length ck] 66 (0, 0))) := by rw [HN.out]; exact HXr.out.ho
        have s1 : wr.cell? ⟨b, 1, none⟩ = some (.slice ai n ci) := blk_at HBr.out 1 rfl
        have hbr : b < wr.heap.size := lt_of_block HBr.out
        have sX : X.size ≤ 300000000 := by
          have h1 := pack_size (K := K) hf hu (l := inF fr up (h.it.take k)) (fun x hx => HOK.out.its x (List.mem_of_mem_take (List.mem_filter.1 hx).1)) (inF fr up (h.it.take k)).length
          rw [List.take_length] at h1
          have h2 : (inF fr up (h.it.take k)).length ≤ (h.it.take k).length := List.length_filter_le _ _
          rw [List.length_take] at h2
          rw [HXe.out, bs_size]
          omega
        by_cases hlt : k < n
        · have hli : (k : Int) < (n : Int) := by omega
          have hltL : k < h.it.length := by rw [← HN.out]; exact hlt
          obtain ⟨g, eg, -, -, d0, d1, -, -⟩ := HXr.out.it.cells hltL
          obtain ⟨y, HY⟩ : ∃ y : Pr, Hid (y = h.it[k]) := ⟨h.it[k], (rfl : h.it[k] = h.it[k])⟩
          have HYO : Hid (itOk K y) := by rw [HY.out]; exact HOK.out.its _ (List.getElem_mem _)
          have HIn : Hid (inF fr up (h.it.take (k + 1)) = inF fr up (h.it.take k) ++ (if inR y.k fr up = true then [y] else [])) := by rw [HY.out]; exact inF_next hltL
          have HOu : Hid (ouF fr up (h.it.take (k + 1)) = ouF fr up (h.it.take k) ++ (if inR y.k fr up = true then [] else [y])) := by rw [HY.out]; exact ouF_next hltL
          rw [← HY.out] at d0 d1
          rw [eg] at s1
          clear eg HY hltL
          have hgr : g < wr.heap.size := World.block_lt_of_cell? wr _ d0
          obtain ⟨W, hW⟩ : ∃ W, W = wr.alloc (.cells #[.string (bs y.k), .string (bs y.v)] 75) := ⟨_, rfl⟩
          obtain ⟨A, HA⟩ : ∃ A : Nat, Hid (A = wr.heap.size) := ⟨_, rfl⟩
          have KW : Hid (Kept Nil wr W) := by rw [hW]; exact (Kept.refl _ _).alloc _
          have HAW : Hid (W.heap[A]? = some (.cells #[.string (bs y.k), .string (bs y.v)] 75 (0, 0))) := by rw [hW, HA.out]; exact blk_new _ _
          have HKW : Hid (Kept Nil w7 W) := HK.out.trans KW.out
          have q0 : W.cell? ⟨A, 0, none⟩ = some (.string (bs y.k)) := blk_at HAW.out 0 rfl
          have q1 : W.cell? ⟨A, 1, none⟩ = some (.string (bs y.v)) := blk_at HAW.out 1 rfl
          have hAW : A < W.heap.size := lt_of_block HAW.out
          have HOm : Hid (W.ownsRow B 75 2 (.slice a m c) m (itCells (ouF fr up (h.it.take k)))) := by have := HO.out.kept KW.out; unfold OwnIt at this; rwa [← HM.out] at this
          have HSz : Hid (B ≤ W.heap.size) := by rw [HB.out]; exact HKW.out.size
          have hmm : m ≤ 1900000 := by have h1 : (ouF fr up (h.it.take k)).length ≤ (h.it.take k).length := List.length_filter_le _ _; have h2 := List.length_take_le k h.it; have := HM.out; omega
          have HMX : Hid (m + 1 ≤ maxLen ∧ (m + 1) * 32 ≤ 140737488355328) := by constructor <;> (try unfold maxLen) <;> omega
          clear hmm
          have WI := within_any y.k fr up W
          obtain ⟨z, HZ2⟩ : ∃ z, Hid (z = inR y.k fr up) := ⟨_, rfl⟩
          rw [← HZ2.out] at WI
          go_upto_region 12 with fail
          rw [← hW, ← HA.out]
          clear hW
          go_wp2_with fail
          go_fit WI
          rintro e w8 ⟨rfl, rfl⟩
          clear WI
          cases z with
          | false =>
            have HI1 : Hid (inF fr up (h.it.take (k + 1)) = inF fr up (h.it.take k)) := by show _ = _; rw [HIn.out, if_neg (by rw [← HZ2.out]; decide), List.append_nil]
            have HO1 : Hid (ouF fr up (h.it.take (k + 1)) = ouF fr up (h.it.take k) ++ [y]) := by show _ = _; rw [HOu.out, if_neg (by rw [← HZ2.out]; decide)]
            obtain ⟨out, HOut⟩ : ∃ out, Hid (out = ouF fr up (h.it.take k)) := ⟨_, rfl⟩
            rw [← HOut.out] at HOm HM HO1
            go_wp2_with (at_builtin; go_must (refine wpList_append_src _ rfl _ _ 64 64 rfl B 75 i0 (.agg #[.string ⟨#[]⟩, .string ⟨#[]⟩]) 2 32 Tryz.underlying64 hi hz0 hz1 hz2 rfl (.slice a m c) m (itCells out) rfl (World.ownsRow.alloc HOm.out _) (.slice (some ⟨w8.heap.size, 0, none⟩) 1 1) 1 [.string (bs y.k), .string (bs y.v)] rfl (oneOwnIt_src w8 y) HMX.out.1 HMX.out.2 (le_alloc HSz.out _) ?_); intro a5 c5 w9 ho5 hg5; have HO5 : Hid (w9.ownsRow B 75 2 (.slice a5 (m + 1) c5) (m + 1) (itCells (out ++ [y]))) := (by rw [itCells_app, show itCells [y] = [.string (bs y.k), .string (bs y.v)] by simp [itCells, itCell]]; exact ho5); have K9 : Hid (Kept Nil w7 w9) := (HKW.out.alloc _).grown hg5 (fun q hq => by rw [← HB.out]; exact own_row HOm.out q hq); clear ho5 hg5)
            go_roundw
            · exact ⟨k + 1, m + 1, c5, a5, X, by omega, (by rw [HI1.out]; exact HXe.out), (by show m + 1 = _; rw [HO1.out, List.length_append, List.length_singleton, ← HM.out]), rfl, rfl, by congr 1, (by rw [HO1.out]; have h := HO5.out; unfold OwnIt; rw [show (out ++ [y]).length = m + 1 by rw [List.length_append, List.length_singleton, ← HM.out]]; exact h), K9.out⟩
            · simp [intOf]; omega
          | true =>
            have HI1 : Hid (inF fr up (h.it.take (k + 1)) = inF fr up (h.it.take k) ++ [y]) := by show _ = _; rw [HIn.out, if_pos HZ2.out.symm]
            have HO1 : Hid (ouF fr up (h.it.take (k + 1)) = ouF fr up (h.it.take k)) := by show _ = _; rw [HOu.out, if_pos HZ2.out.symm, List.append_nil]
            have sz3 : (bs (encFrame y.k)).size ≤ 65546 := by rw [bs_size]; exact encFrame_max (by have := HYO.out.2.1; omega)
            have sz4 : (bs (encFrame y.v)).size ≤ 65546 := by rw [bs_size]; exact encFrame_max (by have := HYO.out.2.2.1; omega)
            have F3 := refFrame_ok y.k w8 (by have := HYO.out.2.1; omega)
            go_wp2_with fail
            go_fit F3
            rintro e w9 ⟨rfl, k9⟩
            have q1 : w9.cell? ⟨A, 1, none⟩ = some (.string (bs y.v)) := cell_kept k9 (fun _ x => x) q1
            have hA9 : A < w9.heap.size := World.block_lt_of_cell? w9 _ q1
            have F4 := refFrame_ok y.v w9 (by have := HYO.out.2.2.1; omega)
            have HKw9 : Hid (Kept Nil w7 w9) := HKW.out.trans k9
            have HKr9 : Hid (Kept Nil wr w9) := KW.out.trans k9
            clear F3 k9
            go_wp2_with fail
            go_fit F4
            rintro e w10 ⟨rfl, k10⟩
            have HK10 : Hid (Kept Nil w7 w10) := HKw9.out.trans k10
            have HKr10 : Hid (Kept Nil wr w10) := HKr9.out.trans k10
            clear F4 k10 q1
            go_wp2
            go_roundw
            · exact ⟨k + 1, m, c, a, _, by omega, (by rw [HI1.out, pack_one]; show X ++ _ ++ _ = _; rw [HXe.out, bs_append, bs_append]), (by show m = _; rw [HO1.out]; exact HM.out), rfl, rfl, by congr 1, (by rw [HO1.out]; exact HO.out.kept HKr10.out), HK10.out⟩
            · simp [intOf]; omega
        · obtain rfl : k = n := by omega
          obtain ⟨md, HMd⟩ : ∃ md, Hid (md = midP fr up h.it) := ⟨_, rfl⟩
          obtain ⟨body, HBd⟩ : ∃ body, Hid (body = packB fr up md) := ⟨_, rfl⟩
          obtain rfl : X = bs body := by rw [HXe.out, HN.out, List.take_length, inF_is HOK.out.srt HSM.out, HBd.out, HMd.out]
          obtain ⟨qs, HQs⟩ : ∃ qs, Hid (qs = delI (lowP fr h.it) (endP up h.it) h.it) := ⟨_, rfl⟩
          have HOu : Hid (ouF fr up (h.it.take k) = qs) := by show _ = _; rw [HN.out, List.take_length, ouF_is HOK.out.srt HSM.out, HQs.out]
          obtain rfl : m = qs.length := by rw [HM.out, HOu.out]
          have HOq : Hid (OwnIt B wr a c qs) := by have := HO.out; rwa [HOu.out] at this
          have HKw : Hid (Kept Nil w wr) := HK7.out.trans HK.out
          have s0 : wr.cell? ⟨b, 0, none⟩ = some (.pointer (some ⟨rb, 0, none⟩)) := blk_at HBr.out 0 rfl
          have hf10 := HOK.out.nu dst hd
          clear HXe HM HO sX sz1 sz2
          by_cases hfl : (h.os dst).wt.length = 16
          · have HFL : Hid ((h.os dst).wt.length = 16) := hfl
            have HR1 : Hid (rs = (4, h)) := by show rs = _; rw [HRS.out]; unfold giveHd; rw [if_neg (by rw [HBK.out]; decide), if_pos hfl]
            have SE := sendY_full G1 rb dst id body h.os ay cy wr HXr.out.rl hd hoth hfl
            clear hfl
            go_wp2_with fail
            go_fit SE
            rintro e w8 ⟨rfl, rfl⟩
            go_wp2
            go_ret
            rw [HR1.out]
            exact ⟨rfl, HXr.out.m, HEND.out _ HKw.out.nilG⟩
          · have HFN : Hid (¬ (h.os dst).wt.length = 16) := hfl
            have SE := sendY_yes G1 rb dst id body h.os ay cy wr HXr.out.rl hd hoth (by omega) (by omega)
            clear hfl
            go_wp2_with fail
            go_fit SE
            rintro e w8 ⟨rfl, ⟨a8, c8, r8⟩, k8⟩
            have HH := HXr.out.relay r8 k8
            obtain ⟨h2, Hh2⟩ : ∃ h2 : Hd, Hid (h2 = { h with os := upd h.os dst (sendO (h.os dst) body) }) := ⟨_, rfl⟩
            have HX8 : Hid (HyX G1 w8 b rb id (upd ay dst a8) (upd cy dst c8) ai ci gk ck h2) := by rw [Hh2.out]; exact HH.1.up (HUP.out wr HKw.out.size)
            have HK8 : Hid (Kept (TG G1) w w8) := HKw.out.nilG.trans HH.2
            have HO8 : Hid (OwnIt B w8 a c qs) := own_keptG HOq.out k8 (fun g cs hg e => by obtain ⟨_, _, e⟩ := e; cases e)
            have HR1 : Hid (rs = (0, { h2 with it := qs, kb := setB h2.kb fr up dst })) := by show rs = _; rw [HRS.out, Hh2.out]; unfold giveHd; rw [if_neg (by rw [HBK.out]; decide), if_neg HFN.out, ← HMd.out, ← HBd.out, ← HQs.out]
            have HVB : Hid (FitB h2.kb ∧ h2.kb.length ≤ 4000000 ∧ Sh h2.kb ∧ h2.it.length = k) := by rw [Hh2.out]; exact ⟨v3, (by show h.kb.length ≤ 4000000; omega), HSh.out, HN.out.symm⟩
            clear SE HH r8 k8 s0
            have HB8 : Hid (w8.heap[b]? = some (.cells #[.pointer (some ⟨rb, 0, none⟩), .slice ai h2.it.length ci, .slice (some ⟨gk, 0, none⟩) h2.kb.length ck] 66 (0, 0))) := HX8.out.ho
            have u1 : w8.cell? ⟨b, 1, none⟩ = some (.slice ai h2.it.length ci) := blk_at HB8.out 1 rfl
            have f1 : w8.frozen? ⟨b, 1, none⟩ = false := blk_free HB8.out _
            have hb8 : b < w8.heap.size := lt_of_block HB8.out
            obtain ⟨V, hV⟩ : ∃ V, V = w8.setCell ⟨b, 1, none⟩ (.slice a qs.length c) := ⟨_, rfl⟩
            have HI := HX8.out.itemsG (HO8.out.mono (Nat.zero_le _)) (fun g hg => HNEW.out g (Nat.le_trans (by rw [HB.out]; exact HK7.out.size) (World.ownsRow.lt HO8.out g hg).1))
            rw [← hV] at HI
            have HXV : Hid (HyX G1 V b rb id (upd ay dst a8) (upd cy dst c8) a c gk ck { h2 with it := qs }) := HI.1
            have HKV : Hid (Kept (TG G1) w V) := HK8.out.trans HI.2
            clear HI
            go_upto_region 22 with fail
            rw [← hV]
            clear hV u1 f1
            have DE := delegate_any V.heap.size ck ⟨gk, 0, none⟩ h2.kb fr up dst V (HXV.out.bounds HVB.out.1) (by have := HVB.out.2.1; omega)
            rw [deleg_is HVB.out.2.2.1] at DE
            obtain ⟨ks, HKS⟩ : ∃ ks, Hid (ks = setB h2.kb fr up dst) := ⟨_, rfl⟩
            rw [← HKS.out] at DE
            have HKP : Hid (0 < ks.length) := by rw [HKS.out]; exact (HVB.out.2.2.1.set fr up dst).pos
            have d2 : V.cell? ⟨b, 2, none⟩ = some (.slice (some ⟨gk, 0, none⟩) h2.kb.length ck) := blk_at HXV.out.ho 2 rfl
            have hbV : b < V.heap.size := lt_of_block HXV.out.ho
            go_wp2_with fail
            go_fit DE
            rintro e w10 ⟨a10, d10, rfl, o10, k10⟩
            obtain ⟨g2, ea2⟩ : ∃ g2, a10 = some ⟨g2, 0, none⟩ := by obtain ⟨g2, e2, _⟩ := o10.cells HKP.out; exact ⟨g2, e2⟩
            subst ea2
            have HH := HXV.out.keys k10 o10
            have e3 : w10.cell? ⟨b, 2, none⟩ = some (.slice (some ⟨gk, 0, none⟩) h2.kb.length ck) := cell_kept k10 (fun _ x => x) d2
            have f3 : w10.frozen? ⟨b, 2, none⟩ = false := blk_free (k10.block _ _ HXV.out.ho (fun x => x)) _
            have HFin : Hid (HyM G1 (w10.setCell ⟨b, 2, none⟩ (.slice (some ⟨g2, 0, none⟩) ks.length d10)) b id { h2 with it := qs, kb := ks } ∧ Kept (TG G) w (w10.setCell ⟨b, 2, none⟩ (.slice (some ⟨g2, 0, none⟩) ks.length d10))) := ⟨(HH.1.up (HUP.out V HKV.out.size)).m, HEND.out _ (HKV.out.trans HH.2)⟩
            clear DE HH k10 o10
            go_wp2
            go_ret
            rw [HR1.out]
            exact ⟨rfl, by rw [← HKS.out]; exact HFin.out.1, HFin.out.2⟩
end Go.Proofs.YtpfgnhockfofhaaGreat

/-
  The document's shards: what a step leaves.
-/
namespace Go.Proofs.YtpfgnhockfofhaaGreat
open Go.RowKit

theorem SyPost.doneX {Gs : Nat → Nat → Prop} {w W w6 w9 : World} {b hb ch : Nat} {hs : Nat → Nat} {S' : Sd} {X : Nat → Obj → Prop} (hG : ∀ i g, Gs i g → g < w.heap.size) (hK : Kept Nil w W) (hX : ∀ q o, X q o → w.heap.size ≤ q ∧ q < W.heap.size) (y : SyPost Gs W b hb ch hs S' w6) (k9 : Kept X w6 w9) : SyPost Gs w b hb ch hs S' w9 := by
  obtain ⟨⟨Gs', aw', cw', x', h'⟩, k'⟩ := y
  refine ⟨⟨Gs', aw', cw', x'.keptX k9 (fun i q o hq e => ?_), fun j g hg => (h' j g hg).imp id (Nat.le_trans hK.size)⟩, ⟨(k9.os.trans k'.os).trans hK.os, (k9.tape.trans k'.tape).trans hK.tape, (k9.output.trans k'.output).trans hK.output, Nat.le_trans (Nat.le_trans hK.size k'.size) k9.size, fun q o ho hx => k9.block q o (k'.block q o (hK.block q o ho (fun e => e)) hx) (fun e => ?_)⟩⟩
  · obtain ⟨e1, e2⟩ := hX q o e
    rcases h' i q hq with h | h
    · have := hG i q h
      omega
    · omega
  · obtain ⟨e1, _⟩ := hX q o e
    have := lt_of_block ho
    omega
theorem may_yes {s : Sp} (h : mayS s = true) : s.ky.length ≤ 16 ∧ s.up.length ≤ 16 ∧ s.vl.length ≤ 64 ∧ (s.ky.isEmpty = true → 4 ≤ s.kd) := by
  unfold mayS at h
  simp only [Bool.and_eq_true, decide_eq_true_eq, Bool.not_eq_true', Bool.and_eq_false_iff, decide_eq_false_iff_not] at h
  refine ⟨h.2.1, h.2.2.1, h.2.2.2, fun e => ?_⟩
  rcases h.1 with h1 | h1
  · rw [e] at h1; cases h1
  · omega
theorem may_no {s : Sp} (h : mayS s = false) (h1 : s.ky.length ≤ 16) (h2 : s.up.length ≤ 16) (h3 : s.vl.length ≤ 64) : s.ky.isEmpty = true ∧ s.kd < 4 := by
  unfold mayS at h
  rw [decide_eq_true h1, decide_eq_true h2, decide_eq_true h3] at h
  simp only [Bool.and_true, Bool.not_eq_false', Bool.and_eq_true, decide_eq_true_eq] at h
  exact h
theorem put_same (S : Sd) (i : Nat) : putH S i (S.ho i) = S := by
  unfold putH
  rw [show upd S.ho i (S.ho i) = S.ho from funext (fun j => by by_cases e : j = i <;> simp [upd, e])]
theorem d16 {n : Nat} (h : n ≤ 16) : decide ((16 : Int) < (n : Int)) = false := decide_eq_false (by omega)
theorem d64 {n : Nat} (h : n ≤ 64) : decide ((64 : Int) < (n : Int)) = false := decide_eq_false (by omega)
theorem host_no {n : Nat} {id : Int} (h : isHo n id = false) : id < 1 ∨ (¬ id < 1 ∧ (n : Int) < id) := by
  by_cases h1 : id < 1
  · exact .inl h1
  · by_cases h2 : (n : Int) < id
    · exact .inr ⟨h1, h2⟩
    · have := isHo_iff.2 (show 1 ≤ id ∧ id ≤ n by omega)
      rw [this] at h; cases h
end Go.Proofs.YtpfgnhockfofhaaGreat

/-
  The document's shards: the same answers are the same.
-/
namespace Go.Proofs.YtpfgnhockfofhaaGreat
open Go.RowKit

set_option maxRecDepth 100000 in
set_option maxHeartbeats 4000000 in
theorem sameR_same (kd : Int) (val : List UInt8) (w : World) :
    Calls Tryz.prog 8 #[.agg (rsC kd val), .agg (rsC kd val)] w fun e w' => e = .returned (.bool true) ∧ Kept Nil w w' := by
  unfold rsC
  obtain ⟨W, hW⟩ : ∃ W, W = (w.alloc (.cells #[.int .i64 kd, .string (bs val), .int .i64 0, .slice none 0 0] 29)).alloc (.cells #[.int .i64 kd, .string (bs val), .int .i64 0, .slice none 0 0] 29) := ⟨_, rfl⟩
  obtain ⟨A, HA⟩ : ∃ A : Nat, Hid (A = w.heap.size) := ⟨_, rfl⟩
  obtain ⟨R, HR⟩ : ∃ R : Nat, Hid (R = w.heap.size + 1) := ⟨_, rfl⟩
  have KW : Hid (Kept Nil w W) := by rw [hW]; exact ((Kept.refl _ _).alloc _).alloc _
  have HAW : Hid (W.heap[A]? = some (.cells #[.int .i64 kd, .string (bs val), .int .i64 0, .slice none 0 0] 29 (0, 0))) := by rw [hW, HA.out]; exact blk_past (blk_new _ _) _
  have HRW : Hid (W.heap[R]? = some (.cells #[.int .i64 kd, .string (bs val), .int .i64 0, .slice none 0 0] 29 (0, 0))) := by rw [hW, HR.out]; exact blk_new1 w _ _
  have a0 := blk_at HAW.out 0 rfl
  have a1 := blk_at HAW.out 1 rfl
  have a2 := blk_at HAW.out 2 rfl
  have a3 := blk_at HAW.out 3 rfl
  have r0 := blk_at HRW.out 0 rfl
  have r1 := blk_at HRW.out 1 rfl
  have r2 := blk_at HRW.out 2 rfl
  have r3 := blk_at HRW.out 3 rfl
  go_enter Tryz.func8, Tryz.ntmps8
  go_upto_region 1 with fail
  rw [← hW, ← HR.out, ← HA.out]
  clear hW
  go_wp2
  go_loopw [5] (fun i wr => i = .int .i64 0 ∧ Hid (wr = W)) (fun _ _ => 0)
  case atStart => exact ⟨rfl, rfl⟩
  case round =>
    obtain ⟨rfl, HE⟩ := hrel
    have he := HE.out
    clear HE
    subst he
    go_wp2
    go_ret
    exact ⟨rfl, KW.out⟩
end Go.Proofs.YtpfgnhockfofhaaGreat

/-
  Shards: Look, Way.
-/
namespace Go.Proofs.YtpfgnhockfofhaaGreat
open Go.RowKit

set_option maxRecDepth 100000 in
set_option maxHeartbeats 1000000 in
theorem cloneI_any (B c : Nat) (ao : Option Addr) (ps : List Pr) (w : World) (h : OwnIt B w ao c ps) (hl : (ps.length : Int) ≤ 100000000000) :
    Calls Tryz.prog 52 #[.slice ao ps.length c] w fun e w' => ∃ ao' c', e = .returned (.slice ao' ps.length c') ∧ OwnIt w.heap.size w' ao' c' ps ∧ Kept Nil w w' := by
  obtain ⟨i0, hi, hz0, hz1, hz2⟩ := info_parts Tryz.infoOwnIt
  cases ao with
  | none =>
    obtain ⟨rfl, rfl⟩ := h.none
    have hnil : ∀ w : World, (binOp .eql 64 (.slice none 0 0) (.slice none 0 0)).run Tryz.prog w = .ok (.bool true) w := fun w => Lib.run_eql_slice_nil w 64 75 none 0 0 0 0 Tryz.underlying64
    go_enter Tryz.func52, Tryz.ntmps52
    go_wp2
    go_ret
    exact ⟨none, 0, rfl, World.ownsRow_nil _ _ _ _, Kept.refl _ _⟩
  | some a =>
    have HS : Hid (Src Tryz.prog 2 64 (.slice (some a) ps.length c) ps.length (itCells ps) (w.alloc (.cells #[] 75))) := (h.kept ((Kept.refl _ _).alloc _)).src
    have HO : Hid ((w.alloc (.cells #[] 75)).ownsRow w.heap.size 75 2 (.slice (some ⟨w.heap.size, 0, none⟩) 0 0) 0 []) := World.ownsRow_lit w #[] 0 (Nat.le_refl _) (by decide) rfl
    have HLL : Hid (0 + ps.length ≤ maxLen ∧ (0 + ps.length) * 32 ≤ 140737488355328) := by constructor <;> (try unfold maxLen) <;> omega
    have hnil : ∀ w : World, (binOp .eql 64 (.slice (some a) ps.length c) (.slice none 0 0)).run Tryz.prog w = .ok (.bool false) w := fun w => Lib.run_eql_slice_nil w 64 75 (some a) ps.length c 0 0 Tryz.underlying64
    clear h hl
    go_enter Tryz.func52, Tryz.ntmps52
    go_wp2_with (at_builtin; go_must (refine wpList_append_src _ rfl _ _ 64 64 rfl w.heap.size 75 i0 (.agg #[.string ⟨#[]⟩, .string ⟨#[]⟩]) 2 32 Tryz.underlying64 hi hz0 hz1 hz2 rfl _ _ _ rfl HO.out (.slice (some a) ps.length c) ps.length (itCells ps) rfl HS.out HLL.out.1 HLL.out.2 (by simp) ?_); intro ao' c' w1 ho' hg'; have HO1 : Hid (w1.ownsRow w.heap.size 75 2 (.slice ao' (0 + ps.length) c') (0 + ps.length) ([] ++ itCells ps)) := ho'; have HG1 : Hid _ := hg'; clear ho' hg')
    go_ret
    have ho := HO1.out
    rw [Nat.zero_add, List.nil_append] at ho
    exact ⟨ao', c', rfl, ho, ((Kept.refl _ _).alloc _).grown HG1.out (fun k hk => own_row HO.out k hk)⟩
set_option maxRecDepth 100000 in
set_option maxHeartbeats 1000000 in
theorem way_any (n b hb ch m cw : Nat) (aw : Option Addr) (w : World) (h : w.heap[b]? = some (.cells #[.slice (some ⟨hb, 0, none⟩) n ch, .slice aw m cw] 46 (0, 0))) :
    Calls Tryz.prog 28 #[.pointer (some ⟨b, 0, none⟩)] w fun e w' => e = .returned (.int .i64 m) ∧ w' = w := by
  have s1 : w.cell? ⟨b, 1, none⟩ = some (.slice aw m cw) := blk_at h 1 rfl
  have hbl : b < w.heap.size := lt_of_block h
  clear h
  go_enter Tryz.func28, Tryz.ntmps28
  go_wp2
  go_ret
  exact ⟨rfl, rfl⟩
set_option maxRecDepth 100000 in
set_option maxHeartbeats 1000000 in
theorem look_no (n b hb ch : Nat) (v : Value) (id : Int) (w : World) (h : w.heap[b]? = some (.cells #[.slice (some ⟨hb, 0, none⟩) n ch, v] 46 (0, 0))) (hid : isHo n id = false) :
    Calls Tryz.prog 26 #[.pointer (some ⟨b, 0, none⟩), .int .i64 id] w fun e w' => e = .returned (.tuple #[.slice none 0 0, .slice none 0 0, .bool false]) ∧ w' = w := by
  have IH := isHost_any n b hb ch v id w h
  rw [hid] at IH
  clear h hid
  go_enter Tryz.func26, Tryz.ntmps26
  go_wp2_with fail
  go_fit IH
  rintro e w1 ⟨rfl, rfl⟩
  go_wp2
  go_ret3
  exact ⟨rfl, rfl⟩
set_option maxRecDepth 100000 in
set_option maxHeartbeats 4000000 in
theorem look_yes (K : List (List UInt8)) (M i : Nat) (Gs : Nat → Nat → Prop) (b hb ch cw : Nat) (hs : Nat → Nat) (aw : Option Addr) (S : Sd) (id : Int) (w : World) (x : ShX Gs w b hb ch hs aw cw S) (inv : Inv K M S) (hM : M ≤ 1900000) (hid : id = ((i + 1 : Nat) : Int)) (hi : i < S.n) :
    Calls Tryz.prog 26 #[.pointer (some ⟨b, 0, none⟩), .int .i64 id] w fun e w' => ∃ a1 c1 a2 c2, e = .returned (.tuple #[.slice a1 (S.ho i).it.length c1, .slice a2 (S.ho i).kb.length c2, .bool true]) ∧ OwnIt w.heap.size w' a1 c1 (S.ho i).it ∧ OwnB w.heap.size w' a2 c2 (S.ho i).kb ∧ Kept Nil w w' := by
  have hn9 := inv.n1.2
  have IH := isHost_any S.n b hb ch _ id w x.blk
  rw [show isHo S.n id = true from isHo_iff.2 ⟨by omega, by omega⟩] at IH
  have ok := inv.ho i hi
  have hkl := ok.kl
  have hil : (S.ho i).it.length ≤ M := Nat.le_trans ok.len inv.kl
  obtain ⟨v1, v2, v3⟩ := vb_facts ok.kv
  obtain ⟨rb, ao, cs, ai, ci, gk, ck, y⟩ := x.ho i hi
  obtain ⟨h, Hh⟩ : ∃ h, Hid (h = S.ho i) := ⟨_, rfl⟩
  rw [← Hh.out] at y hkl hil v1 v2 v3 ⊢
  have HY : Hid (HoX (Gs i) w (hs i) rb (i + 1 : Nat) ao cs ai ci gk ck h) := y
  have s0 : w.cell? ⟨b, 0, none⟩ = some (.slice (some ⟨hb, 0, none⟩) S.n ch) := blk_at x.blk 0 rfl
  have hat : w.cell? ⟨hb, i, none⟩ = some (.pointer (some ⟨hs i, 0, none⟩)) := x.at hi
  have q2 : w.cell? ⟨hs i, 2, none⟩ = some (.slice ai h.it.length ci) := blk_at y.ho 2 rfl
  have q3 : w.cell? ⟨hs i, 3, none⟩ = some (.slice (some ⟨gk, 0, none⟩) h.kb.length ck) := blk_at y.ho 3 rfl
  have hbl : b < w.heap.size := lt_of_block x.blk
  have hhl : hs i < w.heap.size := lt_of_block y.ho
  have hgl : hb < w.heap.size := World.block_lt_of_cell? w _ hat
  have hwr : IntKind.i64.wrap (id - 1) = (i : Int) := by rw [IntKind.wrap_i64]; omega
  have hii : (i : Int) < (S.n : Int) := by omega
  have HFB : Hid (FitB h.kb) := v3
  have CI := cloneI_any 0 ci ai h.it w.drew (y.it.kept (Kept.refl _ _).drew) (by omega)
  clear x inv ok y v1 v2 v3 hid
  go_enter Tryz.func26, Tryz.ntmps26
  go_wp2_with fail
  go_fit IH
  rintro e w1 ⟨rfl, rfl⟩
  clear IH
  go_wp2
  go_region_with (first | (go_at_call 52; go_must (go_fit CI); rintro e w2 ⟨a1, c1, rfl, o1, k1⟩; have K1 : Hid (Kept Nil w1 w2) := (Kept.refl _ _).drew.trans k1; have O1 : Hid (OwnIt w1.heap.size w2 a1 c1 h.it) := o1; have Y2 : Hid (HoX (Gs i) w2 (hs i) rb (i + 1 : Nat) ao cs ai ci gk ck h) := HY.out.kept K1.out; have e3 : w2.cell? ⟨hs i, 3, none⟩ = some (.slice (some ⟨gk, 0, none⟩) h.kb.length ck) := blk_at Y2.out.ho 3 rfl; have CB := cloneB_any w2.heap.size ck ⟨gk, 0, none⟩ h.kb w2 (Y2.out.bounds HFB.out) (by omega); clear o1 k1) | (go_at_call 53; go_must (go_fit CB); rintro e w3 ⟨a2, c2, rfl, o2, k2⟩; have K2 : Hid (Kept Nil w1 w3) := K1.out.trans k2; have O2 : Hid (OwnIt w1.heap.size w3 a1 c1 h.it ∧ OwnB w1.heap.size w3 a2 c2 h.kb) := ⟨O1.out.kept k2, o2.mono K1.out.size⟩; clear o2 k2))
  all_goals
    go_wp2
    go_ret3
    exact ⟨a1, c1, a2, c2, rfl, O2.out.1, O2.out.2, K2.out⟩
end Go.Proofs.YtpfgnhockfofhaaGreat
