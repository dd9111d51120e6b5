/-
  Joined: WSs2.
-/
import Derived.Test.YtpfgnhockfofhaaGreatH24
/-
  The document's shards: a host is asked.
-/
namespace Go.Proofs.YtpfgnhockfofhaaGreat
open Go.RowKit

set_option maxRecDepth 100000 in
set_option maxHeartbeats 8000000 in
theorem ask_set (K : List (List UInt8)) (M : Nat) (G : Nat → Prop) (b : Nat) (id : Int) (h h' : Hd) (hh ot nn : Int) (ky up vl : List UInt8) (w : World) (x : HyM G w b id h) (ok : OkH K M h) (hKM : K.length ≤ M) (hM : M ≤ 1900000) (hh1 : h' = { h with it := setI ⟨ky, vl, 0⟩ h.it }) :
    Calls Tryz.prog 23 #[.pointer (some ⟨b, 0, none⟩), .agg #[.int .i64 1, .int .i64 hh, .int .i64 ot, .int .i64 nn, .string (bs ky), .string (bs up), .string (bs vl)]] w fun e w' => e = .returned (.agg (rsC 1 [])) ∧ HyM (GN G w) w' b id h' ∧ Kept (TG G) w w' := by
  obtain ⟨rb, ay, cy, ai, ci, gk, ck, x⟩ := x
  have hil : h.it.length ≤ M := Nat.le_trans ok.len hKM
  have HS : Hid (Srt h.it) := ok.srt
  have HX : Hid (HyX (fun g => G g ∧ g < w.heap.size) w b rb id ay cy ai ci gk ck h) := x.lt
  obtain ⟨G0, HG0⟩ : ∃ G0 : Nat → Prop, Hid (G0 = fun g => G g ∧ g < w.heap.size) := ⟨_, rfl⟩
  rw [← HG0.out] at HX
  have HGG : Hid (∀ g, G0 g → G g ∧ g < w.heap.size) := fun g hg => by rw [HG0.out] at hg; exact hg
  obtain ⟨W, hW⟩ : ∃ W, W = (w.alloc (.cells #[.int .i64 1, .int .i64 hh, .int .i64 ot, .int .i64 nn, .string (bs ky), .string (bs up), .string (bs vl)] 34)).alloc (.cells #[.int .i64 0, .string ⟨#[]⟩, .int .i64 0, .slice none 0 0] 29) := ⟨_, rfl⟩
  obtain ⟨A, HA⟩ : ∃ A : Nat, Hid (A = w.heap.size) := ⟨_, rfl⟩
  obtain ⟨R, HR⟩ : ∃ R : Nat, Hid (R = w.heap.size + 1) := ⟨_, rfl⟩
  have KW : Hid (Kept Nil w W) := by rw [hW]; exact ((Kept.refl _ _).alloc _).alloc _
  have HAW : Hid (W.heap[A]? = some (.cells #[.int .i64 1, .int .i64 hh, .int .i64 ot, .int .i64 nn, .string (bs ky), .string (bs up), .string (bs vl)] 34 (0, 0))) := by rw [hW, HA.out]; exact blk_past (blk_new _ _) _
  have HRW : Hid (W.heap[R]? = some (.cells #[.int .i64 0, .string ⟨#[]⟩, .int .i64 0, .slice none 0 0] 29 (0, 0))) := by rw [hW, HR.out]; exact blk_new1 w _ _
  have HRB : Hid (w.heap.size ≤ R) := by rw [HR.out]; exact Nat.le_succ _
  have HXW : Hid (HyX G0 W b rb id ay cy ai ci gk ck h) := HX.out.kept KW.out
  have Hh : Hid (h' = { h with it := setI ⟨ky, vl, 0⟩ h.it }) := hh1
  obtain ⟨n, HN⟩ : ∃ n, Hid (n = h.it.length) := ⟨_, rfl⟩
  have hn : n ≤ 1900000 := by rw [HN.out]; omega
  have t1 := bs_toList ky
  clear x ok HG0 hil
  go_enter Tryz.func23, Tryz.ntmps23
  go_upto_region 1 with fail
  rw [← hW, ← HR.out, ← HA.out]
  clear hW
  go_wp2
  go_loopw [5, 6, 7] (fun u v q wr => ∃ k : Nat, ∃ r : Option (List UInt8), k ≤ n ∧ Hid (lkF ky (h.it.take k) = r) ∧ u = .string (bs (r.getD [])) ∧ v = .bool r.isSome ∧ q = .int .i64 k ∧ Hid (Kept Nil W wr)) (fun _ _ q _ => n - (intOf q).toNat)
  case atStart => exact ⟨0, none, Nat.zero_le _, rfl, rfl, rfl, rfl, Kept.refl _ _⟩
  case round =>
    obtain ⟨k, r, hk, HL, rfl, rfl, rfl, HK⟩ := hrel
    have HXr : Hid (HyX G0 wr b rb id ay cy ai ci gk ck h) := HXW.out.kept HK.out
    have HBr : Hid (wr.heap[b]? = some (.cells #[.pointer (some ⟨rb, 0, none⟩), .slice ai n ci, .slice (some ⟨gk, 0, none⟩) h.kb.length ck] 66 (0, 0))) := by rw [HN.out]; exact HXr.out.ho
    have s1 : wr.cell? ⟨b, 1, none⟩ = some (.slice ai n ci) := blk_at HBr.out 1 rfl
    have HAr : Hid (wr.heap[A]? = some (.cells #[.int .i64 1, .int .i64 hh, .int .i64 ot, .int .i64 nn, .string (bs ky), .string (bs up), .string (bs vl)] 34 (0, 0))) := HK.out.block _ _ HAW.out (fun e => e)
    have HRr : Hid (wr.heap[R]? = some (.cells #[.int .i64 0, .string ⟨#[]⟩, .int .i64 0, .slice none 0 0] 29 (0, 0))) := HK.out.block _ _ HRW.out (fun e => e)
    have p4 : wr.cell? ⟨A, 4, none⟩ = some (.string (bs ky)) := blk_at HAr.out 4 rfl
    have hbr : b < wr.heap.size := lt_of_block HBr.out
    have hAr : A < wr.heap.size := lt_of_block HAr.out
    by_cases hlt : k < n
    · have hli : (k : Int) < (n : Int) := by omega
      have hltL : k < h.it.length := by rw [← HN.out]; exact hlt
      obtain ⟨g, eg, -, -, c0, c1, -, -⟩ := HXr.out.it.cells hltL
      obtain ⟨y, HY⟩ : ∃ y : Pr, Hid (y = h.it[k]) := ⟨h.it[k], (rfl : h.it[k] = h.it[k])⟩
      have HNx : Hid (lkF ky (h.it.take (k + 1)) = if y.k = ky then some y.v else r) := by rw [HY.out, ← HL.out]; exact lkF_next hltL
      rw [← HY.out] at c0 c1
      rw [eg] at s1
      have HEG : Hid (ai = some ⟨g, 0, none⟩) := eg
      clear eg HY hltL
      have hgr : g < wr.heap.size := World.block_lt_of_cell? wr _ c0
      have t2 := bs_toList y.k
      by_cases heq : y.k = ky
      · have a2 : (y.k == ky) = true := by simp [heq]
        have HE : Hid (lkF ky (h.it.take (k + 1)) = some y.v) := by show _ = _; rw [HNx.out, if_pos heq]
        clear heq
        go_upto_region 6 with fail
        go_quiet (fail)
        rename Nat => nq
        obtain ⟨V, hV⟩ : ∃ V, V = wr.drewN nq := ⟨_, rfl⟩
        have KV : Hid (Kept Nil W V) := by rw [hV]; exact HK.out.drewN _
        have s1 : V.cell? ⟨b, 1, none⟩ = some (.slice (some ⟨g, 0, none⟩) n ci) := by rw [hV]; exact s1
        have c1 : V.cell? ⟨g, k * 2 + 1, none⟩ = some (.string (bs y.v)) := by rw [hV]; exact c1
        have hbV : b < V.heap.size := World.block_lt_of_cell? V _ s1
        have hgV : g < V.heap.size := World.block_lt_of_cell? V _ c1
        rw [← hV]
        clear hV
        go_wp2
        go_roundw
        · exact ⟨k + 1, some y.v, by omega, HE.out, rfl, rfl, by congr 1, KV.out⟩
        · simp [intOf]; omega
      · have a2 : (y.k == ky) = false := by simp [heq]
        have HE : Hid (lkF ky (h.it.take (k + 1)) = r) := by show _ = _; rw [HNx.out, if_neg heq]
        clear heq
        go_upto_region 6 with fail
        go_quiet (fail)
        rename Nat => nq
        obtain ⟨V, hV⟩ : ∃ V, V = wr.drewN nq := ⟨_, rfl⟩
        have KV : Hid (Kept Nil W V) := by rw [hV]; exact HK.out.drewN _
        rw [← hV]
        clear hV
        go_wp2
        go_roundw
        · exact ⟨k + 1, r, by omega, HE.out, rfl, rfl, by congr 1, KV.out⟩
        · simp [intOf]; omega
    · obtain rfl : k = n := by omega
      have HLe : Hid (lkF ky h.it = r) := by have := HL.out; rwa [HN.out, List.take_length] at this
      have HKw : Hid (Kept Nil w wr) := KW.out.trans HK.out
      have hRl : R < wr.heap.size := lt_of_block HRr.out
      have p0 : wr.cell? ⟨A, 0, none⟩ = some (.int .i64 1) := blk_at HAr.out 0 rfl
      have p6 : wr.cell? ⟨A, 6, none⟩ = some (.string (bs vl)) := blk_at HAr.out 6 rfl
      have CC := refSet_any ci ai h.it ⟨ky, vl, 0⟩ wr.drew (HXr.out.it.kept (Kept.refl _ _ : Kept Nil wr wr).drew).itRow (by rw [← HN.out]; omega) HS.out
      rw [← HN.out] at CC
      go_upto_region 10 with fail
      go_cut [] (fun w5 => Hid (HyM (GN G0 wr) w5 b id h') ∧ Hid (Kept (TG G0) wr w5))
      case first =>
        go_region_with (go_at_call 45; go_must (go_fit CC); rintro e w2 ⟨a2, c2, rfl, o2, k2⟩; have K2 : Hid (Kept Nil wr w2) := (Kept.refl _ _).drew.trans k2; have HH := HXr.out.items K2.out o2; have B2 : Hid (w2.heap[b]? = _) := K2.out.block _ _ HBr.out (fun e => e); have e1 := blk_at B2.out 1 rfl; have f1 : w2.frozen? ⟨b, 1, none⟩ = false := blk_free B2.out _; have hb2 : b < w2.heap.size := lt_of_block B2.out)
        all_goals
          go_wp2
          go_meet
          exact ⟨by rw [Hh.out]; exact HH.1.m, HH.2⟩
      case rest =>
        rename World => w5
        obtain ⟨HX5, HK5⟩ := hcut
        have HR5 : Hid (w5.heap[R]? = some (.cells #[.int .i64 0, .string ⟨#[]⟩, .int .i64 0, .slice none 0 0] 29 (0, 0))) := HK5.out.block _ _ HRr.out (fun e => by have := (HGG.out R e).2; have := HRB.out; omega)
        clear CC
        apply_assumption
        go_wp2_with ((with_reducible refine atStore 29 ?_); go_must (refine wpList_storeW rfl _ _ _ rfl _ (rsC 1 []) _ _ rfl rfl HR5.out rfl Tryz.sizeRs rfl (rsC_one _ _) ?_); intro w9 hb9 hk9 hs9)
        refine bodyPost_ret (results_cellW rfl rfl hb9 Tryz.underlying29 rfl Tryz.sizeRs rfl) rfl ⟨rfl, ?_⟩
        exact HyM.doneX HGG.out HKw.out (fun q o e => by have e : q = R := e; rw [e]; exact ⟨HRB.out, hRl⟩) HX5.out (HK5.out.upG (fun g hg => .inl hg)) hk9
set_option maxRecDepth 100000 in
set_option maxHeartbeats 8000000 in
theorem ask_none (K : List (List UInt8)) (M : Nat) (G : Nat → Prop) (b : Nat) (id : Int) (h : Hd) (kd hh ot nn : Int) (ky up vl : List UInt8) (w : World) (x : HyM G w b id h) (ok : OkH K M h) (hKM : K.length ≤ M) (hM : M ≤ 1900000) (hk1 : ¬ kd = 1) (ht : isThere ky h.it = false) :
    Calls Tryz.prog 23 #[.pointer (some ⟨b, 0, none⟩), .agg #[.int .i64 kd, .int .i64 hh, .int .i64 ot, .int .i64 nn, .string (bs ky), .string (bs up), .string (bs vl)]] w fun e w' => e = .returned (.agg (rsC 2 [])) ∧ HyM (GN G w) w' b id h ∧ Kept (TG G) w w' := by
  obtain ⟨rb, ay, cy, ai, ci, gk, ck, x⟩ := x
  have hil : h.it.length ≤ M := Nat.le_trans ok.len hKM
  have HS : Hid (Srt h.it) := ok.srt
  have HX : Hid (HyX (fun g => G g ∧ g < w.heap.size) w b rb id ay cy ai ci gk ck h) := x.lt
  obtain ⟨G0, HG0⟩ : ∃ G0 : Nat → Prop, Hid (G0 = fun g => G g ∧ g < w.heap.size) := ⟨_, rfl⟩
  rw [← HG0.out] at HX
  have HGG : Hid (∀ g, G0 g → G g ∧ g < w.heap.size) := fun g hg => by rw [HG0.out] at hg; exact hg
  obtain ⟨W, hW⟩ : ∃ W, W = (w.alloc (.cells #[.int .i64 kd, .int .i64 hh, .int .i64 ot, .int .i64 nn, .string (bs ky), .string (bs up), .string (bs vl)] 34)).alloc (.cells #[.int .i64 0, .string ⟨#[]⟩, .int .i64 0, .slice none 0 0] 29) := ⟨_, rfl⟩
  obtain ⟨A, HA⟩ : ∃ A : Nat, Hid (A = w.heap.size) := ⟨_, rfl⟩
  obtain ⟨R, HR⟩ : ∃ R : Nat, Hid (R = w.heap.size + 1) := ⟨_, rfl⟩
  have KW : Hid (Kept Nil w W) := by rw [hW]; exact ((Kept.refl _ _).alloc _).alloc _
  have HAW : Hid (W.heap[A]? = some (.cells #[.int .i64 kd, .int .i64 hh, .int .i64 ot, .int .i64 nn, .string (bs ky), .string (bs up), .string (bs vl)] 34 (0, 0))) := by rw [hW, HA.out]; exact blk_past (blk_new _ _) _
  have HRW : Hid (W.heap[R]? = some (.cells #[.int .i64 0, .string ⟨#[]⟩, .int .i64 0, .slice none 0 0] 29 (0, 0))) := by rw [hW, HR.out]; exact blk_new1 w _ _
  have HRB : Hid (w.heap.size ≤ R) := by rw [HR.out]; exact Nat.le_succ _
  have HXW : Hid (HyX G0 W b rb id ay cy ai ci gk ck h) := HX.out.kept KW.out
  have HT : Hid (isThere ky h.it = false) := ht
  obtain ⟨n, HN⟩ : ∃ n, Hid (n = h.it.length) := ⟨_, rfl⟩
  have hn : n ≤ 1900000 := by rw [HN.out]; omega
  have t1 := bs_toList ky
  clear x ok HG0 hil
  go_enter Tryz.func23, Tryz.ntmps23
  go_upto_region 1 with fail
  rw [← hW, ← HR.out, ← HA.out]
  clear hW
  go_wp2
  go_loopw [5, 6, 7] (fun u v q wr => ∃ k : Nat, ∃ r : Option (List UInt8), k ≤ n ∧ Hid (lkF ky (h.it.take k) = r) ∧ u = .string (bs (r.getD [])) ∧ v = .bool r.isSome ∧ q = .int .i64 k ∧ Hid (Kept Nil W wr)) (fun _ _ q _ => n - (intOf q).toNat)
  case atStart => exact ⟨0, none, Nat.zero_le _, rfl, rfl, rfl, rfl, Kept.refl _ _⟩
  case round =>
    obtain ⟨k, r, hk, HL, rfl, rfl, rfl, HK⟩ := hrel
    have HXr : Hid (HyX G0 wr b rb id ay cy ai ci gk ck h) := HXW.out.kept HK.out
    have HBr : Hid (wr.heap[b]? = some (.cells #[.pointer (some ⟨rb, 0, none⟩), .slice ai n ci, .slice (some ⟨gk, 0, none⟩) h.kb.length ck] 66 (0, 0))) := by rw [HN.out]; exact HXr.out.ho
    have s1 : wr.cell? ⟨b, 1, none⟩ = some (.slice ai n ci) := blk_at HBr.out 1 rfl
    have HAr : Hid (wr.heap[A]? = some (.cells #[.int .i64 kd, .int .i64 hh, .int .i64 ot, .int .i64 nn, .string (bs ky), .string (bs up), .string (bs vl)] 34 (0, 0))) := HK.out.block _ _ HAW.out (fun e => e)
    have HRr : Hid (wr.heap[R]? = some (.cells #[.int .i64 0, .string ⟨#[]⟩, .int .i64 0, .slice none 0 0] 29 (0, 0))) := HK.out.block _ _ HRW.out (fun e => e)
    have p4 : wr.cell? ⟨A, 4, none⟩ = some (.string (bs ky)) := blk_at HAr.out 4 rfl
    have hbr : b < wr.heap.size := lt_of_block HBr.out
    have hAr : A < wr.heap.size := lt_of_block HAr.out
    by_cases hlt : k < n
    · have hli : (k : Int) < (n : Int) := by omega
      have hltL : k < h.it.length := by rw [← HN.out]; exact hlt
      obtain ⟨g, eg, -, -, c0, c1, -, -⟩ := HXr.out.it.cells hltL
      obtain ⟨y, HY⟩ : ∃ y : Pr, Hid (y = h.it[k]) := ⟨h.it[k], (rfl : h.it[k] = h.it[k])⟩
      have HNx : Hid (lkF ky (h.it.take (k + 1)) = if y.k = ky then some y.v else r) := by rw [HY.out, ← HL.out]; exact lkF_next hltL
      rw [← HY.out] at c0 c1
      rw [eg] at s1
      have HEG : Hid (ai = some ⟨g, 0, none⟩) := eg
      clear eg HY hltL
      have hgr : g < wr.heap.size := World.block_lt_of_cell? wr _ c0
      have t2 := bs_toList y.k
      by_cases heq : y.k = ky
      · have a2 : (y.k == ky) = true := by simp [heq]
        have HE : Hid (lkF ky (h.it.take (k + 1)) = some y.v) := by show _ = _; rw [HNx.out, if_pos heq]
        clear heq
        go_upto_region 6 with fail
        go_quiet (fail)
        rename Nat => nq
        obtain ⟨V, hV⟩ : ∃ V, V = wr.drewN nq := ⟨_, rfl⟩
        have KV : Hid (Kept Nil W V) := by rw [hV]; exact HK.out.drewN _
        have s1 : V.cell? ⟨b, 1, none⟩ = some (.slice (some ⟨g, 0, none⟩) n ci) := by rw [hV]; exact s1
        have c1 : V.cell? ⟨g, k * 2 + 1, none⟩ = some (.string (bs y.v)) := by rw [hV]; exact c1
        have hbV : b < V.heap.size := World.block_lt_of_cell? V _ s1
        have hgV : g < V.heap.size := World.block_lt_of_cell? V _ c1
        rw [← hV]
        clear hV
        go_wp2
        go_roundw
        · exact ⟨k + 1, some y.v, by omega, HE.out, rfl, rfl, by congr 1, KV.out⟩
        · simp [intOf]; omega
      · have a2 : (y.k == ky) = false := by simp [heq]
        have HE : Hid (lkF ky (h.it.take (k + 1)) = r) := by show _ = _; rw [HNx.out, if_neg heq]
        clear heq
        go_upto_region 6 with fail
        go_quiet (fail)
        rename Nat => nq
        obtain ⟨V, hV⟩ : ∃ V, V = wr.drewN nq := ⟨_, rfl⟩
        have KV : Hid (Kept Nil W V) := by rw [hV]; exact HK.out.drewN _
        rw [← hV]
        clear hV
        go_wp2
        go_roundw
        · exact ⟨k + 1, r, by omega, HE.out, rfl, rfl, by congr 1, KV.out⟩
        · simp [intOf]; omega
    · obtain rfl : k = n := by omega
      have HLe : Hid (lkF ky h.it = r) := by have := HL.out; rwa [HN.out, List.take_length] at this
      have HKw : Hid (Kept Nil w wr) := KW.out.trans HK.out
      have hRl : R < wr.heap.size := lt_of_block HRr.out
      have p0 : wr.cell? ⟨A, 0, none⟩ = some (.int .i64 kd) := blk_at HAr.out 0 rfl
      have HRn : Hid (r = none) := by show _ = _; rw [← HLe.out]; exact lkF_none HS.out HT.out
      obtain rfl : r = none := HRn.out
      go_wp2_with ((with_reducible refine atStore 29 ?_); go_must (refine wpList_storeW rfl _ _ _ rfl _ (rsC 2 []) _ _ rfl rfl HRr.out rfl Tryz.sizeRs rfl (rsC_one _ _) ?_); intro w9 hb9 hk9 hs9)
      refine bodyPost_ret (results_cellW rfl rfl hb9 Tryz.underlying29 rfl Tryz.sizeRs rfl) rfl ⟨rfl, ?_⟩
      exact HyM.doneX HGG.out HKw.out (fun q o e => by have e : q = R := e; rw [e]; exact ⟨HRB.out, hRl⟩) (HXr.out.up (fun g hg => .inl hg)).m (Kept.refl _ _) hk9
set_option maxRecDepth 100000 in
set_option maxHeartbeats 8000000 in
theorem ask_get (K : List (List UInt8)) (M : Nat) (G : Nat → Prop) (b : Nat) (id : Int) (h : Hd) (hh ot nn : Int) (ky up vl rv : List UInt8) (w : World) (x : HyM G w b id h) (ok : OkH K M h) (hKM : K.length ≤ M) (hM : M ≤ 1900000) (ht : isThere ky h.it = true) (hv : rv = (match h.it[lowP ky h.it]? with | some x => x.v | none => [])) :
    Calls Tryz.prog 23 #[.pointer (some ⟨b, 0, none⟩), .agg #[.int .i64 2, .int .i64 hh, .int .i64 ot, .int .i64 nn, .string (bs ky), .string (bs up), .string (bs vl)]] w fun e w' => e = .returned (.agg (rsC 1 rv)) ∧ HyM (GN G w) w' b id h ∧ Kept (TG G) w w' := by
  obtain ⟨rb, ay, cy, ai, ci, gk, ck, x⟩ := x
  have hil : h.it.length ≤ M := Nat.le_trans ok.len hKM
  have HS : Hid (Srt h.it) := ok.srt
  have HX : Hid (HyX (fun g => G g ∧ g < w.heap.size) w b rb id ay cy ai ci gk ck h) := x.lt
  obtain ⟨G0, HG0⟩ : ∃ G0 : Nat → Prop, Hid (G0 = fun g => G g ∧ g < w.heap.size) := ⟨_, rfl⟩
  rw [← HG0.out] at HX
  have HGG : Hid (∀ g, G0 g → G g ∧ g < w.heap.size) := fun g hg => by rw [HG0.out] at hg; exact hg
  obtain ⟨W, hW⟩ : ∃ W, W = (w.alloc (.cells #[.int .i64 2, .int .i64 hh, .int .i64 ot, .int .i64 nn, .string (bs ky), .string (bs up), .string (bs vl)] 34)).alloc (.cells #[.int .i64 0, .string ⟨#[]⟩, .int .i64 0, .slice none 0 0] 29) := ⟨_, rfl⟩
  obtain ⟨A, HA⟩ : ∃ A : Nat, Hid (A = w.heap.size) := ⟨_, rfl⟩
  obtain ⟨R, HR⟩ : ∃ R : Nat, Hid (R = w.heap.size + 1) := ⟨_, rfl⟩
  have KW : Hid (Kept Nil w W) := by rw [hW]; exact ((Kept.refl _ _).alloc _).alloc _
  have HAW : Hid (W.heap[A]? = some (.cells #[.int .i64 2, .int .i64 hh, .int .i64 ot, .int .i64 nn, .string (bs ky), .string (bs up), .string (bs vl)] 34 (0, 0))) := by rw [hW, HA.out]; exact blk_past (blk_new _ _) _
  have HRW : Hid (W.heap[R]? = some (.cells #[.int .i64 0, .string ⟨#[]⟩, .int .i64 0, .slice none 0 0] 29 (0, 0))) := by rw [hW, HR.out]; exact blk_new1 w _ _
  have HRB : Hid (w.heap.size ≤ R) := by rw [HR.out]; exact Nat.le_succ _
  have HXW : Hid (HyX G0 W b rb id ay cy ai ci gk ck h) := HX.out.kept KW.out
  have HT : Hid (isThere ky h.it = true) := ht
  have HV : Hid (rv = (match h.it[lowP ky h.it]? with | some x => x.v | none => [])) := hv
  clear hv
  obtain ⟨n, HN⟩ : ∃ n, Hid (n = h.it.length) := ⟨_, rfl⟩
  have hn : n ≤ 1900000 := by rw [HN.out]; omega
  have t1 := bs_toList ky
  clear x ok HG0 hil
  go_enter Tryz.func23, Tryz.ntmps23
  go_upto_region 1 with fail
  rw [← hW, ← HR.out, ← HA.out]
  clear hW
  go_wp2
  go_loopw [5, 6, 7] (fun u v q wr => ∃ k : Nat, ∃ r : Option (List UInt8), k ≤ n ∧ Hid (lkF ky (h.it.take k) = r) ∧ u = .string (bs (r.getD [])) ∧ v = .bool r.isSome ∧ q = .int .i64 k ∧ Hid (Kept Nil W wr)) (fun _ _ q _ => n - (intOf q).toNat)
  case atStart => exact ⟨0, none, Nat.zero_le _, rfl, rfl, rfl, rfl, Kept.refl _ _⟩
  case round =>
    obtain ⟨k, r, hk, HL, rfl, rfl, rfl, HK⟩ := hrel
    have HXr : Hid (HyX G0 wr b rb id ay cy ai ci gk ck h) := HXW.out.kept HK.out
    have HBr : Hid (wr.heap[b]? = some (.cells #[.pointer (some ⟨rb, 0, none⟩), .slice ai n ci, .slice (some ⟨gk, 0, none⟩) h.kb.length ck] 66 (0, 0))) := by rw [HN.out]; exact HXr.out.ho
    have s1 : wr.cell? ⟨b, 1, none⟩ = some (.slice ai n ci) := blk_at HBr.out 1 rfl
    have HAr : Hid (wr.heap[A]? = some (.cells #[.int .i64 2, .int .i64 hh, .int .i64 ot, .int .i64 nn, .string (bs ky), .string (bs up), .string (bs vl)] 34 (0, 0))) := HK.out.block _ _ HAW.out (fun e => e)
    have HRr : Hid (wr.heap[R]? = some (.cells #[.int .i64 0, .string ⟨#[]⟩, .int .i64 0, .slice none 0 0] 29 (0, 0))) := HK.out.block _ _ HRW.out (fun e => e)
    have p4 : wr.cell? ⟨A, 4, none⟩ = some (.string (bs ky)) := blk_at HAr.out 4 rfl
    have hbr : b < wr.heap.size := lt_of_block HBr.out
    have hAr : A < wr.heap.size := lt_of_block HAr.out
    by_cases hlt : k < n
    · have hli : (k : Int) < (n : Int) := by omega
      have hltL : k < h.it.length := by rw [← HN.out]; exact hlt
      obtain ⟨g, eg, -, -, c0, c1, -, -⟩ := HXr.out.it.cells hltL
      obtain ⟨y, HY⟩ : ∃ y : Pr, Hid (y = h.it[k]) := ⟨h.it[k], (rfl : h.it[k] = h.it[k])⟩
      have HNx : Hid (lkF ky (h.it.take (k + 1)) = if y.k = ky then some y.v else r) := by rw [HY.out, ← HL.out]; exact lkF_next hltL
      rw [← HY.out] at c0 c1
      rw [eg] at s1
      have HEG : Hid (ai = some ⟨g, 0, none⟩) := eg
      clear eg HY hltL
      have hgr : g < wr.heap.size := World.block_lt_of_cell? wr _ c0
      have t2 := bs_toList y.k
      by_cases heq : y.k = ky
      · have a2 : (y.k == ky) = true := by simp [heq]
        have HE : Hid (lkF ky (h.it.take (k + 1)) = some y.v) := by show _ = _; rw [HNx.out, if_pos heq]
        clear heq
        go_upto_region 6 with fail
        go_quiet (fail)
        rename Nat => nq
        obtain ⟨V, hV⟩ : ∃ V, V = wr.drewN nq := ⟨_, rfl⟩
        have KV : Hid (Kept Nil W V) := by rw [hV]; exact HK.out.drewN _
        have s1 : V.cell? ⟨b, 1, none⟩ = some (.slice (some ⟨g, 0, none⟩) n ci) := by rw [hV]; exact s1
        have c1 : V.cell? ⟨g, k * 2 + 1, none⟩ = some (.string (bs y.v)) := by rw [hV]; exact c1
        have hbV : b < V.heap.size := World.block_lt_of_cell? V _ s1
        have hgV : g < V.heap.size := World.block_lt_of_cell? V _ c1
        rw [← hV]
        clear hV
        go_wp2
        go_roundw
        · exact ⟨k + 1, some y.v, by omega, HE.out, rfl, rfl, by congr 1, KV.out⟩
        · simp [intOf]; omega
      · have a2 : (y.k == ky) = false := by simp [heq]
        have HE : Hid (lkF ky (h.it.take (k + 1)) = r) := by show _ = _; rw [HNx.out, if_neg heq]
        clear heq
        go_upto_region 6 with fail
        go_quiet (fail)
        rename Nat => nq
        obtain ⟨V, hV⟩ : ∃ V, V = wr.drewN nq := ⟨_, rfl⟩
        have KV : Hid (Kept Nil W V) := by rw [hV]; exact HK.out.drewN _
        rw [← hV]
        clear hV
        go_wp2
        go_roundw
        · exact ⟨k + 1, r, by omega, HE.out, rfl, rfl, by congr 1, KV.out⟩
        · simp [intOf]; omega
    · obtain rfl : k = n := by omega
      have HLe : Hid (lkF ky h.it = r) := by have := HL.out; rwa [HN.out, List.take_length] at this
      have HKw : Hid (Kept Nil w wr) := KW.out.trans HK.out
      have hRl : R < wr.heap.size := lt_of_block HRr.out
      have p0 : wr.cell? ⟨A, 0, none⟩ = some (.int .i64 2) := blk_at HAr.out 0 rfl
      have HRn : Hid (r = some rv) := by show _ = _; rw [← HLe.out, HV.out]; exact lkF_some HS.out HT.out
      obtain rfl : r = some rv := HRn.out
      go_wp2_with ((with_reducible refine atStore 29 ?_); go_must (refine wpList_storeW rfl _ _ _ rfl _ (rsC 1 rv) _ _ rfl rfl HRr.out rfl Tryz.sizeRs rfl (rsC_one _ _) ?_); intro w9 hb9 hk9 hs9)
      refine bodyPost_ret (results_cellW rfl rfl hb9 Tryz.underlying29 rfl Tryz.sizeRs rfl) rfl ⟨rfl, ?_⟩
      exact HyM.doneX HGG.out HKw.out (fun q o e => by have e : q = R := e; rw [e]; exact ⟨HRB.out, hRl⟩) (HXr.out.up (fun g hg => .inl hg)).m (Kept.refl _ _) hk9
set_option maxRecDepth 100000 in
set_option maxHeartbeats 8000000 in
theorem ask_del (K : List (List UInt8)) (M : Nat) (G : Nat → Prop) (b : Nat) (id : Int) (h h' : Hd) (hh ot nn : Int) (ky up vl : List UInt8) (w : World) (x : HyM G w b id h) (ok : OkH K M h) (hKM : K.length ≤ M) (hM : M ≤ 1900000) (ht : isThere ky h.it = true) (hh1 : h' = { h with it := delI (lowP ky h.it) (lowP ky h.it + 1) h.it }) :
    Calls Tryz.prog 23 #[.pointer (some ⟨b, 0, none⟩), .agg #[.int .i64 3, .int .i64 hh, .int .i64 ot, .int .i64 nn, .string (bs ky), .string (bs up), .string (bs vl)]] w fun e w' => e = .returned (.agg (rsC 1 [])) ∧ HyM (GN G w) w' b id h' ∧ Kept (TG G) w w' := by
  obtain ⟨rb, ay, cy, ai, ci, gk, ck, x⟩ := x
  have hil : h.it.length ≤ M := Nat.le_trans ok.len hKM
  have HS : Hid (Srt h.it) := ok.srt
  have HX : Hid (HyX (fun g => G g ∧ g < w.heap.size) w b rb id ay cy ai ci gk ck h) := x.lt
  obtain ⟨G0, HG0⟩ : ∃ G0 : Nat → Prop, Hid (G0 = fun g => G g ∧ g < w.heap.size) := ⟨_, rfl⟩
  rw [← HG0.out] at HX
  have HGG : Hid (∀ g, G0 g → G g ∧ g < w.heap.size) := fun g hg => by rw [HG0.out] at hg; exact hg
  obtain ⟨W, hW⟩ : ∃ W, W = (w.alloc (.cells #[.int .i64 3, .int .i64 hh, .int .i64 ot, .int .i64 nn, .string (bs ky), .string (bs up), .string (bs vl)] 34)).alloc (.cells #[.int .i64 0, .string ⟨#[]⟩, .int .i64 0, .slice none 0 0] 29) := ⟨_, rfl⟩
  obtain ⟨A, HA⟩ : ∃ A : Nat, Hid (A = w.heap.size) := ⟨_, rfl⟩
  obtain ⟨R, HR⟩ : ∃ R : Nat, Hid (R = w.heap.size + 1) := ⟨_, rfl⟩
  have KW : Hid (Kept Nil w W) := by rw [hW]; exact ((Kept.refl _ _).alloc _).alloc _
  have HAW : Hid (W.heap[A]? = some (.cells #[.int .i64 3, .int .i64 hh, .int .i64 ot, .int .i64 nn, .string (bs ky), .string (bs up), .string (bs vl)] 34 (0, 0))) := by rw [hW, HA.out]; exact blk_past (blk_new _ _) _
  have HRW : Hid (W.heap[R]? = some (.cells #[.int .i64 0, .string ⟨#[]⟩, .int .i64 0, .slice none 0 0] 29 (0, 0))) := by rw [hW, HR.out]; exact blk_new1 w _ _
  have HRB : Hid (w.heap.size ≤ R) := by rw [HR.out]; exact Nat.le_succ _
  have HXW : Hid (HyX G0 W b rb id ay cy ai ci gk ck h) := HX.out.kept KW.out
  have HT : Hid (isThere ky h.it = true) := ht
  have Hh : Hid (h' = { h with it := delI (lowP ky h.it) (lowP ky h.it + 1) h.it }) := hh1
  obtain ⟨n, HN⟩ : ∃ n, Hid (n = h.it.length) := ⟨_, rfl⟩
  have hn : n ≤ 1900000 := by rw [HN.out]; omega
  have t1 := bs_toList ky
  clear x ok HG0 hil
  go_enter Tryz.func23, Tryz.ntmps23
  go_upto_region 1 with fail
  rw [← hW, ← HR.out, ← HA.out]
  clear hW
  go_wp2
  go_loopw [5, 6, 7] (fun u v q wr => ∃ k : Nat, ∃ r : Option (List UInt8), k ≤ n ∧ Hid (lkF ky (h.it.take k) = r) ∧ u = .string (bs (r.getD [])) ∧ v = .bool r.isSome ∧ q = .int .i64 k ∧ Hid (Kept Nil W wr)) (fun _ _ q _ => n - (intOf q).toNat)
  case atStart => exact ⟨0, none, Nat.zero_le _, rfl, rfl, rfl, rfl, Kept.refl _ _⟩
  case round =>
    obtain ⟨k, r, hk, HL, rfl, rfl, rfl, HK⟩ := hrel
    have HXr : Hid (HyX G0 wr b rb id ay cy ai ci gk ck h) := HXW.out.kept HK.out
    have HBr : Hid (wr.heap[b]? = some (.cells #[.pointer (some ⟨rb, 0, none⟩), .slice ai n ci, .slice (some ⟨gk, 0, none⟩) h.kb.length ck] 66 (0, 0))) := by rw [HN.out]; exact HXr.out.ho
    have s1 : wr.cell? ⟨b, 1, none⟩ = some (.slice ai n ci) := blk_at HBr.out 1 rfl
    have HAr : Hid (wr.heap[A]? = some (.cells #[.int .i64 3, .int .i64 hh, .int .i64 ot, .int .i64 nn, .string (bs ky), .string (bs up), .string (bs vl)] 34 (0, 0))) := HK.out.block _ _ HAW.out (fun e => e)
    have HRr : Hid (wr.heap[R]? = some (.cells #[.int .i64 0, .string ⟨#[]⟩, .int .i64 0, .slice none 0 0] 29 (0, 0))) := HK.out.block _ _ HRW.out (fun e => e)
    have p4 : wr.cell? ⟨A, 4, none⟩ = some (.string (bs ky)) := blk_at HAr.out 4 rfl
    have hbr : b < wr.heap.size := lt_of_block HBr.out
    have hAr : A < wr.heap.size := lt_of_block HAr.out
    by_cases hlt : k < n
    · have hli : (k : Int) < (n : Int) := by omega
      have hltL : k < h.it.length := by rw [← HN.out]; exact hlt
      obtain ⟨g, eg, -, -, c0, c1, -, -⟩ := HXr.out.it.cells hltL
      obtain ⟨y, HY⟩ : ∃ y : Pr, Hid (y = h.it[k]) := ⟨h.it[k], (rfl : h.it[k] = h.it[k])⟩
      have HNx : Hid (lkF ky (h.it.take (k + 1)) = if y.k = ky then some y.v else r) := by rw [HY.out, ← HL.out]; exact lkF_next hltL
      rw [← HY.out] at c0 c1
      rw [eg] at s1
      have HEG : Hid (ai = some ⟨g, 0, none⟩) := eg
      clear eg HY hltL
      have hgr : g < wr.heap.size := World.block_lt_of_cell? wr _ c0
      have t2 := bs_toList y.k
      by_cases heq : y.k = ky
      · have a2 : (y.k == ky) = true := by simp [heq]
        have HE : Hid (lkF ky (h.it.take (k + 1)) = some y.v) := by show _ = _; rw [HNx.out, if_pos heq]
        clear heq
        go_upto_region 6 with fail
        go_quiet (fail)
        rename Nat => nq
        obtain ⟨V, hV⟩ : ∃ V, V = wr.drewN nq := ⟨_, rfl⟩
        have KV : Hid (Kept Nil W V) := by rw [hV]; exact HK.out.drewN _
        have s1 : V.cell? ⟨b, 1, none⟩ = some (.slice (some ⟨g, 0, none⟩) n ci) := by rw [hV]; exact s1
        have c1 : V.cell? ⟨g, k * 2 + 1, none⟩ = some (.string (bs y.v)) := by rw [hV]; exact c1
        have hbV : b < V.heap.size := World.block_lt_of_cell? V _ s1
        have hgV : g < V.heap.size := World.block_lt_of_cell? V _ c1
        rw [← hV]
        clear hV
        go_wp2
        go_roundw
        · exact ⟨k + 1, some y.v, by omega, HE.out, rfl, rfl, by congr 1, KV.out⟩
        · simp [intOf]; omega
      · have a2 : (y.k == ky) = false := by simp [heq]
        have HE : Hid (lkF ky (h.it.take (k + 1)) = r) := by show _ = _; rw [HNx.out, if_neg heq]
        clear heq
        go_upto_region 6 with fail
        go_quiet (fail)
        rename Nat => nq
        obtain ⟨V, hV⟩ : ∃ V, V = wr.drewN nq := ⟨_, rfl⟩
        have KV : Hid (Kept Nil W V) := by rw [hV]; exact HK.out.drewN _
        rw [← hV]
        clear hV
        go_wp2
        go_roundw
        · exact ⟨k + 1, r, by omega, HE.out, rfl, rfl, by congr 1, KV.out⟩
        · simp [intOf]; omega
    · obtain rfl : k = n := by omega
      have HLe : Hid (lkF ky h.it = r) := by have := HL.out; rwa [HN.out, List.take_length] at this
      have HKw : Hid (Kept Nil w wr) := KW.out.trans HK.out
      have hRl : R < wr.heap.size := lt_of_block HRr.out
      have p0 : wr.cell? ⟨A, 0, none⟩ = some (.int .i64 3) := blk_at HAr.out 0 rfl
      have HRn : Hid (r = some (match h.it[lowP ky h.it]? with | some x => x.v | none => [])) := by show _ = _; rw [← HLe.out]; exact lkF_some HS.out HT.out
      obtain ⟨rv, hrv⟩ : ∃ rv, r = some rv := ⟨_, HRn.out⟩
      subst hrv
      have CC := refWo_any ci ai h.it ky wr.drew (HXr.out.it.kept (Kept.refl _ _ : Kept Nil wr wr).drew).itRow (by rw [← HN.out]; omega)
      rw [wo_is HS.out HT.out, ← HN.out] at CC
      go_upto_region 15 with fail
      go_cut [] (fun w5 => Hid (HyM (GN G0 wr) w5 b id h') ∧ Hid (Kept (TG G0) wr w5))
      case first =>
        go_region_with (go_at_call 46; go_must (go_fit CC); rintro e w2 ⟨a2, c2, rfl, o2, k2⟩; have K2 : Hid (Kept Nil wr w2) := (Kept.refl _ _).drew.trans k2; have HH := HXr.out.items K2.out o2; have B2 : Hid (w2.heap[b]? = _) := K2.out.block _ _ HBr.out (fun e => e); have e1 := blk_at B2.out 1 rfl; have f1 : w2.frozen? ⟨b, 1, none⟩ = false := blk_free B2.out _; have hb2 : b < w2.heap.size := lt_of_block B2.out)
        all_goals
          go_wp2
          go_meet
          exact ⟨by rw [Hh.out]; exact HH.1.m, HH.2⟩
      case rest =>
        rename World => w5
        obtain ⟨HX5, HK5⟩ := hcut
        have HR5 : Hid (w5.heap[R]? = some (.cells #[.int .i64 0, .string ⟨#[]⟩, .int .i64 0, .slice none 0 0] 29 (0, 0))) := HK5.out.block _ _ HRr.out (fun e => by have := (HGG.out R e).2; have := HRB.out; omega)
        clear CC
        apply_assumption
        go_wp2_with ((with_reducible refine atStore 29 ?_); go_must (refine wpList_storeW rfl _ _ _ rfl _ (rsC 1 []) _ _ rfl rfl HR5.out rfl Tryz.sizeRs rfl (rsC_one _ _) ?_); intro w9 hb9 hk9 hs9)
        refine bodyPost_ret (results_cellW rfl rfl hb9 Tryz.underlying29 rfl Tryz.sizeRs rfl) rfl ⟨rfl, ?_⟩
        exact HyM.doneX HGG.out HKw.out (fun q o e => by have e : q = R := e; rw [e]; exact ⟨HRB.out, hRl⟩) HX5.out (HK5.out.upG (fun g hg => .inl hg)) hk9
theorem ask_any (K : List (List UInt8)) (M : Nat) (G : Nat → Prop) (b : Nat) (id : Int) (h : Hd) (s : Sp) (w : World) (x : HyM G w b id h) (ok : OkH K M h) (hKM : K.length ≤ M) (hM : M ≤ 1900000) (hk : 1 ≤ s.kd ∧ s.kd ≤ 3) :
    Calls Tryz.prog 23 #[.pointer (some ⟨b, 0, none⟩), .agg (stC s)] w fun e w' => e = .returned (.agg (rsC (applyH s h).1 (applyH s h).2.1)) ∧ HyM (GN G w) w' b id (applyH s h).2.2 ∧ Kept (TG G) w w' := by
  obtain ⟨kd, hh, ot, nn, ky, up, vl⟩ := s
  unfold applyH stC
  dsimp only at hk ⊢
  by_cases h1 : kd = 1
  · subst h1
    exact ask_set K M G b id h _ hh ot nn ky up vl w x ok hKM hM rfl
  · rw [if_neg h1]
    cases ht : isThere ky h.it with
    | false =>
      rw [if_pos rfl]
      exact ask_none K M G b id h kd hh ot nn ky up vl w x ok hKM hM h1 ht
    | true =>
      rw [if_neg (by decide)]
      by_cases h2 : kd = 2
      · subst h2
        rw [if_pos rfl]
        exact ask_get K M G b id h hh ot nn ky up vl _ w x ok hKM hM ht rfl
      · obtain rfl : kd = 3 := by omega
        rw [if_neg h2]
        exact ask_del K M G b id h _ hh ot nn ky up vl w x ok hKM hM ht rfl
end Go.Proofs.YtpfgnhockfofhaaGreat
