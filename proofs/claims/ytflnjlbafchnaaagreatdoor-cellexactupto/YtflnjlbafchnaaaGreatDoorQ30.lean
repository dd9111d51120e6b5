/-
  Joined: WKv18.
-/
import Derived.Test.YtflnjlbafchnaaaGreatDoorQ27
import Derived.Deep.RegionLaw
/-
  kv: the document's Apply: list.
-/
namespace Go.Proofs.YtflnjlbafchnaaaGreatDoor
open Go.RowKit

set_option maxRecDepth 100000 in
set_option maxHeartbeats 4000000 in
theorem refAp6 (B c : Nat) (ao : Option Addr) (ps : List Pr) (ck val : List UInt8) (m : Int) (w : World) (h : PairRow B w ao ps) (hok : pairsOk ps = true) (hcm : isCmd 6 ck val m = true) (hl : (ps.length : Int) ≤ 3518437208780) (hck : ck.length ≤ maxLen) (hval : val.length ≤ maxLen) :
    Calls Tryz.prog 100 #[.slice ao ps.length c, .agg #[.int .i64 6, .string (bs ck), .string (bs val), .int .i64 m]] w (RefApPost w ao c ps (ps) (⟨1, [], 0, foldL ck m ps⟩)) := by
  obtain ⟨W, hW⟩ : ∃ W, W = (w.alloc (.cells #[.int .i64 6, .string (bs ck), .string (bs val), .int .i64 m] 31)).alloc (.cells #[.int .i64 0, .string ⟨#[]⟩, .int .i64 0, .slice none 0 0] 50) := ⟨_, rfl⟩
  have KW : Hid (Kept Nil w W) := by rw [hW]; exact ((Kept.refl _ _).alloc _).alloc _
  have HC : Hid (W.heap[w.heap.size]? = some (.cells #[.int .i64 6, .string (bs ck), .string (bs val), .int .i64 m] 31 (0, 0))) := by rw [hW]; exact blk_past (blk_new _ _) _
  have HN : Hid (W.heap[w.heap.size + 1]? = some (.cells #[.int .i64 0, .string ⟨#[]⟩, .int .i64 0, .slice none 0 0] 50 (0, 0))) := by
    rw [hW]
    have := blk_new (w.alloc (.cells #[.int .i64 6, .string (bs ck), .string (bs val), .int .i64 m] 31)) (.cells #[.int .i64 0, .string ⟨#[]⟩, .int .i64 0, .slice none 0 0] 50)
    show _ = _
    simpa using this
  have HPW : Hid (w.heap.size ≤ w.heap.size + 1) := Nat.le_succ _
  have HR : Hid (PairRow B W ao ps) := h.nil KW.out
  have CM := refIsCommand_any 6 m ck val W hck hval
  obtain ⟨i0, hi, hz0, hz1, hz2⟩ := info_parts Tryz.infoSt
  obtain ⟨hl32, hsrt, hpr⟩ := pairs_ok hok
  obtain ⟨s1, s2, s3, s4⟩ := spot_ok hok ck
  obtain ⟨hv64, hm0⟩ := isCmd_val hcm
  obtain ⟨n, HNn⟩ : ∃ n, Hid (n = spotN ck ps) := ⟨_, rfl⟩
  obtain ⟨v, HVn⟩ : ∃ v, Hid (v = spotV ck ps) := ⟨_, rfl⟩
  rw [← HNn.out] at s1 s2 s3
  rw [← HVn.out] at s4
  have HVe : Hid (n = 0 → v = []) := fun e => by
    rw [HVn.out]
    unfold spotV
    rw [if_neg (fun x => s2.2 x e)]
  have HSp : Hid ((n = 0 → getP ck ps = -1) ∧ (n ≠ 0 → getP ck ps = (lowP ck ps : Int) ∧ ∃ hl : lowP ck ps < ps.length, ps[lowP ck ps].n = n ∧ ps[lowP ck ps].v = v)) := by
    refine ⟨fun e => ?_, fun e => ?_⟩
    · unfold getP
      rw [if_neg (fun x => s2.2 x e)]
    · obtain ⟨hlow, _, e2, e3⟩ := there_at (s2.1 e)
      refine ⟨by unfold getP; rw [if_pos (s2.1 e)], hlow, ?_, ?_⟩
      · rw [← e3, ← HNn.out]
      · rw [← e2, ← HVn.out]
  obtain ⟨q, HQ⟩ : ∃ q, Hid (q = getP ck ps) := ⟨_, rfl⟩
  rw [← HQ.out] at HSp
  rw [hcm] at CM
  go_enter Tryz.func100, Tryz.ntmps100
  go_wp2_with fail
  rw [← hW]
  obtain ⟨C, HCe⟩ : ∃ C, Hid (C = w.heap.size) := ⟨_, rfl⟩
  obtain ⟨pr, HPe⟩ : ∃ pr, Hid (pr = w.heap.size + 1) := ⟨_, rfl⟩
  rw [← HPe.out] at HN HPW ⊢
  rw [← HCe.out] at HC ⊢
  clear hW h
  go_fit CM
  rintro _ w1 ⟨rfl, k1⟩
  have K1 : Hid (Kept Nil W w1) := k1
  clear k1 CM
  have IP := refIsPairs_any B c ao ps w1 (HR.out.nil K1.out) (by omega)
  rw [hok] at IP
  go_wp2_with fail
  go_fit IP
  rintro _ w2 ⟨rfl, k2⟩
  have K2 : Hid (Kept Nil W w2) := K1.out.trans k2
  clear k2 IP K1
  have d1 : w2.cell? ⟨C, 1, none⟩ = some (.string (bs ck)) := blk_at (K2.out.block _ _ HC.out (fun x => x.elim)) 1 rfl
  have GET := refGet_any B c ao ps ck w2 (HR.out.nil K2.out) hsrt (by omega)
  rw [← HQ.out] at GET
  go_wp2_with fail
  go_fit GET
  rintro _ w2 ⟨rfl, rfl⟩
  clear GET d1
  obtain ⟨ob, HOe⟩ : ∃ ob, Hid (ob = w2.heap.size) := ⟨_, rfl⟩
  have HOB : Hid (W.heap.size ≤ ob) := by show _ ≤ _; rw [HOe.out]; exact K2.out.size
  go_upto_region 7 with fail
  rw [← HOe.out]
  go_cut [33] (fun x wc => x = .bool (decide (n ≠ 0)) ∧ wc = w2.alloc (.cells #[.string ⟨#[]⟩, .string ⟨#[]⟩, .int .i64 0] 63))
  case first =>
    by_cases e : n = 0
    · have e0 := HSp.out.1 e
      subst e0
      go_wp2
      go_meet
      exact ⟨by rw [decide_eq_false (fun x => x e)], rfl⟩
    · obtain ⟨e1, hlow, e2⟩ := HSp.out.2 e
      subst e1
      go_wp2
      go_meet
      exact ⟨by rw [decide_eq_true e], rfl⟩
  case rest =>
    obtain ⟨rfl, rfl⟩ := hcut
    go_upto_if 33 with fail
    go_cut [] (fun wc => ∃ z, Hid (wc.heap[ob]? = some (.cells #[.string z, .string (bs v), .int .i64 n] 63 (0, 0))) ∧ Hid (Kept Nil W wc))
    case first =>
      have HX : Hid ((w2.alloc (.cells #[.string ⟨#[]⟩, .string ⟨#[]⟩, .int .i64 0] 63)).heap[ob]? = some (.cells #[.string ⟨#[]⟩, .string ⟨#[]⟩, .int .i64 0] 63 (0, 0))) := by rw [HOe.out]; exact blk_new _ _
      by_cases e : n = 0
      · have hv := HVe.out e
        subst e
        subst hv
        have e0 : decide ((0 : Int) ≠ 0) = false := by decide
        rw [e0]
        go_wp2
        go_meet
        exact ⟨_, HX.out, K2.out.alloc _⟩
      · obtain ⟨e1, hlow, e2, e3⟩ := HSp.out.2 e
        subst e1
        have e0 : decide (n ≠ 0) = true := decide_eq_true e
        rw [e0]
        obtain ⟨a, rfl, hab, hc0, hc1, hc2, _, _⟩ := (HR.out.nil (K2.out.alloc (.cells #[.string ⟨#[]⟩, .string ⟨#[]⟩, .int .i64 0] 63))) (lowP ck ps) hlow
        rw [e2] at hc2
        rw [e3] at hc1
        have hki : ((lowP ck ps : Nat) : Int) < ps.length := by omega
        generalize ps[lowP ck ps].k = kk at *
        generalize lowP ck ps = r at *
        obtain ⟨X1, hX1⟩ : ∃ X1, X1 = w2.alloc (.cells #[.string ⟨#[]⟩, .string ⟨#[]⟩, .int .i64 0] 63) := ⟨_, rfl⟩
        rw [← hX1] at HX hc0 hc1 hc2 ⊢
        have x0 : X1.cell? ⟨ob, 0, none⟩ = some (.string ⟨#[]⟩) := blk_at HX.out 0 rfl
        have x1 : X1.cell? ⟨ob, 1, none⟩ = some (.string ⟨#[]⟩) := blk_at HX.out 1 rfl
        have x2 : X1.cell? ⟨ob, 2, none⟩ = some (.int .i64 0) := blk_at HX.out 2 rfl
        have f0 : X1.frozen? ⟨ob, 0, none⟩ = false := blk_free HX.out 0
        have f1 : X1.frozen? ⟨ob, 1, none⟩ = false := blk_free HX.out 1
        have f2 : X1.frozen? ⟨ob, 2, none⟩ = false := blk_free HX.out 2
        have KX : Hid (Kept Nil W X1) := by rw [hX1]; exact K2.out.alloc _
        clear hX1
        go_wp2
        go_meet
        exact ⟨_, blk_set (blk_set (blk_set HX.out 0 _) 1 _) 2 _, ((KX.out.setNew (p := ⟨ob, 0, none⟩) HOB.out _).setNew (p := ⟨ob, 1, none⟩) HOB.out _).setNew (p := ⟨ob, 2, none⟩) HOB.out _⟩
    case rest =>
      obtain ⟨z, HX, HK⟩ := hcut
      rename World => X
      have x1 : X.cell? ⟨ob, 1, none⟩ = some (.string (bs v)) := blk_at HX.out 1 rfl
      have x2 : X.cell? ⟨ob, 2, none⟩ = some (.int .i64 n) := blk_at HX.out 2 rfl
      have d0 : X.cell? ⟨C, 0, none⟩ = some (.int .i64 6) := blk_at (HK.out.block _ _ HC.out (fun x => x.elim)) 0 rfl
      have d1 : X.cell? ⟨C, 1, none⟩ = some (.string (bs ck)) := blk_at (HK.out.block _ _ HC.out (fun x => x.elim)) 1 rfl
      have d2 : X.cell? ⟨C, 2, none⟩ = some (.string (bs val)) := blk_at (HK.out.block _ _ HC.out (fun x => x.elim)) 2 rfl
      have d3 : X.cell? ⟨C, 3, none⟩ = some (.int .i64 m) := blk_at (HK.out.block _ _ HC.out (fun x => x.elim)) 3 rfl
      have HRX : Hid (PairRow B X ao ps) := HR.out.nil HK.out
      clear HOe K2
      have hds := bs_size
      have ht := bs_toList
      have htk := bs_take
      obtain ⟨rb, HRB⟩ : ∃ rb, Hid (rb = X.heap.size) := ⟨_, rfl⟩
      obtain ⟨X0, hX0⟩ : ∃ X0, X0 = X.alloc (.cells #[.int .i64 1, .string ⟨#[]⟩, .int .i64 0, .slice none 0 0] 50) := ⟨_, rfl⟩
      have HX0 : Hid (X0.heap[rb]? = some (.cells #[.int .i64 1, .string ⟨#[]⟩, .int .i64 0, .slice none 0 0] 50 (0, 0))) := by rw [hX0, HRB.out]; exact blk_new _ _
      have HKX : Hid (Kept Nil W X0) := by rw [hX0]; exact HK.out.alloc _
      have HSZ : Hid (W.heap.size ≤ rb) := by show _ ≤ _; rw [HRB.out]; exact HK.out.size
      go_wp2_with fail
      rw [← hX0, ← HRB.out]
      clear hX0 x1 x2 d0 d1 d2 d3 HX HRB
      go_loopg [11, 12] ps.length (fun g s11 _ wr => ∃ k : Nat, ∃ o : List (List UInt8), ∃ ko kc, k ≤ ps.length ∧ g = ps.length - k ∧ s11 = .int .i64 k ∧ Hid (o = foldL ck m (ps.take k)) ∧ o.length ≤ k ∧ Hid (OwnK (rb + 1) wr ko kc o) ∧ Hid (wr.heap[rb]? = some (.cells #[.int .i64 1, .string ⟨#[]⟩, .int .i64 0, .slice ko o.length kc] 50 (0, 0))) ∧ Hid (Kept Nil W wr))
      case atStart => exact ⟨0, [], none, 0, Nat.zero_le _, rfl, rfl, rfl, by simp, World.ownsRow_nil _ _ _ _, HX0.out, HKX.out⟩
      case round =>
        obtain ⟨k, o, ko, kc, hk, rfl, rfl, HF, hol, HO, HXr, HKr⟩ := hrel
        clear HX0 HKX HK
        rename World => wr
        by_cases hlt : k < ps.length
        · obtain ⟨a, rfl, _, hc0, hc1, hc2, _, _⟩ := HR.out.nil HKr.out k hlt
          have hki : (k : Int) < ps.length := by omega
          obtain ⟨y, HY⟩ : ∃ y : Pr, Hid (y = ps[k]) := ⟨ps[k], (rfl : ps[k] = ps[k])⟩
          obtain ⟨t, HT⟩ : ∃ t : Bool, Hid (t = decide (prefB y.k ck = true ∧ (m = 0 ∨ (o.length : Int) < m))) := ⟨_, rfl⟩
          have HF2 : Hid (foldL ck m (ps.take (k + 1)) = if t = true then o ++ [y.k] else o) := by
            show _ = _
            rw [foldL_snoc hlt, ← HF.out, HT.out, HY.out]
            unfold stepL
            simp only [decide_eq_true_eq]
          rw [← HY.out] at hc0 hc1 hc2
          have HYK : Hid (y.k = ps[k].k) := by show _ = _; rw [HY.out]
          clear HF HY hc1 hc2
          obtain ⟨yk, yv, yn⟩ := y
          dsimp only at hc0 HT HF2 HYK
          have d1 : wr.cell? ⟨C, 1, none⟩ = some (.string (bs ck)) := blk_at (HKr.out.block _ _ HC.out (fun x => x.elim)) 1 rfl
          have d3 : wr.cell? ⟨C, 3, none⟩ = some (.int .i64 m) := blk_at (HKr.out.block _ _ HC.out (fun x => x.elim)) 3 rfl
          have x3 : wr.cell? ⟨rb, 3, none⟩ = some (.slice ko o.length kc) := blk_at HXr.out 3 rfl
          go_upto_region 26 with fail
          go_cut [137] (fun s wc => s = .bool t ∧ Hid (OwnK (rb + 1) wc ko kc o) ∧ Hid (wc.heap[rb]? = some (.cells #[.int .i64 1, .string ⟨#[]⟩, .int .i64 0, .slice ko o.length kc] 50 (0, 0))) ∧ Hid (Kept Nil W wc))
          case first =>
            by_cases h1 : ck.length ≤ yk.length
            · have h1i : (ck.length : Int) ≤ (yk.length : Int) := by omega
              have h1b : decide ((ck.length : Int) ≤ (yk.length : Int)) = true := decide_eq_true h1i
              have htk2 : (bs yk).extract 0 ck.length = bs (yk.take ck.length) := bs_take yk ck.length
              by_cases h2 : yk.take ck.length = ck
              · have h2b : (yk.take ck.length == ck) = true := by rw [beq_iff_eq]; exact h2
                by_cases h3 : m = 0
                · have h3b : (m == 0) = true := beq_iff_eq.2 h3
                  have HTT : Hid (t = true) := by show _ = _; rw [HT.out]; exact decide_eq_true ⟨by unfold prefB; exact decide_eq_true h2, .inl h3⟩
                  clear h2 h3
                  go_quiet (fail)
                  go_wp2
                  go_meet
                  exact ⟨by rw [HTT.out], HO.out.kept ((Kept.refl _ _).drewN _), HXr.out, HKr.out.drewN _⟩
                · have h3b : (m == 0) = false := beq_eq_false_iff_ne.2 h3
                  by_cases h4 : (o.length : Int) < m
                  · have HTT : Hid (t = true) := by show _ = _; rw [HT.out]; exact decide_eq_true ⟨by unfold prefB; exact decide_eq_true h2, .inr h4⟩
                    have h4b : decide ((o.length : Int) < m) = true := decide_eq_true h4
                    clear h2 h3
                    go_quiet (fail)
                    go_wp2
                    go_meet
                    exact ⟨by rw [HTT.out], HO.out.kept ((Kept.refl _ _).drewN _), HXr.out, HKr.out.drewN _⟩
                  · have HTT : Hid (t = false) := by show _ = _; rw [HT.out]; exact decide_eq_false (fun x => x.2.elim h3 h4)
                    have h4b : decide ((o.length : Int) < m) = false := decide_eq_false h4
                    clear h2 h3
                    go_quiet (fail)
                    go_wp2
                    go_meet
                    exact ⟨by rw [HTT.out], HO.out.kept ((Kept.refl _ _).drewN _), HXr.out, HKr.out.drewN _⟩
              · have h2b : (yk.take ck.length == ck) = false := beq_eq_false_iff_ne.2 h2
                have HTT : Hid (t = false) := by show _ = _; rw [HT.out]; exact decide_eq_false (fun x => h2 (by have := x.1; unfold prefB at this; exact of_decide_eq_true this))
                clear h2
                go_quiet (fail)
                go_wp2
                go_meet
                exact ⟨by rw [HTT.out], HO.out.kept ((Kept.refl _ _).drewN _), HXr.out, HKr.out.drewN _⟩
            · have h1b : decide ((ck.length : Int) ≤ (yk.length : Int)) = false := decide_eq_false (by omega)
              have HTT : Hid (t = false) := by
                show _ = _
                rw [HT.out]
                refine decide_eq_false (fun x => ?_)
                have h2 := x.1
                unfold prefB at h2
                have h3 := congrArg List.length (of_decide_eq_true h2)
                rw [List.length_take] at h3
                omega
              go_quiet (fail)
              go_wp2
              go_meet
              exact ⟨by rw [HTT.out], HO.out.kept ((Kept.refl _ _).drewN _), HXr.out, HKr.out.drewN _⟩
          case rest =>
            obtain ⟨rfl, HO2, HX2, HK2⟩ := hcut
            rename World => wd
            clear HT HO HXr HKr d1 d3 x3 hc0
            go_upto_if 137 with fail
            cases t with
            | false =>
              have HF3 : Hid (o = foldL ck m (ps.take (k + 1))) := by show _ = _; rw [HF2.out]; simp
              go_wp2
              go_roundg (ps.length - (k + 1))
              case measure => omega
              case rel => exact ⟨k + 1, o, ko, kc, by omega, rfl, by go_num, HF3.out, by omega, HO2.out, HX2.out, HK2.out⟩
            | true =>
              have HF3 : Hid (o ++ [yk] = foldL ck m (ps.take (k + 1))) := by show _ = _; rw [HF2.out]; simp
              obtain ⟨_, ha', _, hc0, _, _, _, _⟩ := HR.out.nil HK2.out k hlt
              cases ha'
              rw [show ps[k].k = yk from HYK.out.symm] at hc0
              have x3 : wd.cell? ⟨rb, 3, none⟩ = some (.slice ko o.length kc) := blk_at HX2.out 3 rfl
              have f3 : wd.frozen? ⟨rb, 3, none⟩ = false := blk_free HX2.out 3
              have hrlt : rb < wd.heap.size := lt_of_block HX2.out
              have halt : a.block < wd.heap.size := by have := World.block_lt_of_cell? wd _ hc0; simpa [add_block] using this
              have HOO : Hid (wd.ownsRow (rb + 1) 9 1 (.slice ko o.length kc) o.length (kyCells o)) := HO2.out
              have HLL : Hid (o.length + 1 ≤ maxLen ∧ (o.length + 1) * 16 ≤ 140737488355328) := by constructor <;> (try unfold maxLen) <;> omega
              go_wp2_with fail
              go_region_law (refine step_append_src _ rfl (.tmp 139) (.tmp 145) 48 48 rfl (rb + 1) 9 i0 (.string ⟨#[]⟩) 1 16 Tryz.underlying48 hi hz0 hz1 hz2 rfl (.slice ko o.length kc) o.length (kyCells o) (by simp [Act.eval]) (World.ownsRow.alloc (w := wd.drew) HOO.out _) (.slice (some ⟨wd.heap.size, 0, none⟩) 1 1) 1 [.string (bs yk)] (by simp [Act.eval]) (src_ky (w := wd.drew) yk) HLL.out.1 HLL.out.2 (le_alloc (w := wd.drew) hrlt _) ?_; intro ao' c' w4 ho' hg'; have HO4 : Hid (w4.ownsRow (rb + 1) 9 1 (.slice ao' (o.length + 1) c') (o.length + 1) (kyCells o ++ [.string (bs yk)])) := ho'; have HB4 : Hid (w4.heap[rb]? = some (.cells #[.int .i64 1, .string ⟨#[]⟩, .int .i64 0, .slice ko o.length kc] 50 (0, 0))) := grown_blk hg' (blk_past (w := wd.drew) HX2.out _) (fun e => by have := own_row HOO.out _ e; omega); have HK4 : Hid (Kept Nil W w4) := (HK2.out.drew.alloc _).grown hg' (fun q hq => by have := own_row HOO.out q hq; have := HSZ.out; omega); have c3 : w4.cell? ⟨rb, 3, none⟩ = some (.slice ko o.length kc) := blk_at HB4.out 3 rfl; have f4 : w4.frozen? ⟨rb, 3, none⟩ = false := blk_free HB4.out 3; clear ho' hg')
              all_goals go_wp2
              all_goals
                go_roundg (ps.length - (k + 1))
                case measure => omega
                case rel => exact ⟨k + 1, o ++ [yk], ao', c', by omega, rfl, by go_num, HF3.out, by rw [List.length_append]; simp; omega, by show OwnK _ _ _ _ _; refine ownsRow_setCell_below ?_ (Nat.lt_succ_self rb) _; rw [kyCells_snoc, List.length_append]; exact HO4.out, by show _ = _; rw [List.length_append]; exact blk_set HB4.out 3 _, HK4.out.setNew (p := ⟨rb, 3, none⟩) HSZ.out _⟩
        · obtain rfl : k = ps.length := by omega
          have HF3 : Hid (o = foldL ck m ps) := by show _ = _; rw [HF.out, List.take_length]
          have HO2 : Hid (OwnK W.heap.size wr ko kc o) := own_mono HO.out (by have := HSZ.out; omega)
          have x0 : wr.cell? ⟨rb, 0, none⟩ = some (.int .i64 1) := blk_at HXr.out 0 rfl
          have x1 : wr.cell? ⟨rb, 1, none⟩ = some (.string ⟨#[]⟩) := blk_at HXr.out 1 rfl
          have x2 : wr.cell? ⟨rb, 2, none⟩ = some (.int .i64 0) := blk_at HXr.out 2 rfl
          have x3 : wr.cell? ⟨rb, 3, none⟩ = some (.slice ko o.length kc) := blk_at HXr.out 3 rfl
          have HNz : Hid (wr.heap[pr]? = some (.cells #[.int .i64 0, .string ⟨#[]⟩, .int .i64 0, .slice none 0 0] 50 (0, 0))) := HKr.out.block _ _ HN.out (fun x => x.elim)
          have r0 : wr.cell? ⟨pr, 0, none⟩ = some (.int .i64 0) := blk_at HNz.out 0 rfl
          have r1 : wr.cell? ⟨pr, 1, none⟩ = some (.string ⟨#[]⟩) := blk_at HNz.out 1 rfl
          have r2 : wr.cell? ⟨pr, 2, none⟩ = some (.int .i64 0) := blk_at HNz.out 2 rfl
          have r3 : wr.cell? ⟨pr, 3, none⟩ = some (.slice none 0 0) := blk_at HNz.out 3 rfl
          have z0 : wr.frozen? ⟨pr, 0, none⟩ = false := blk_free HNz.out 0
          have z1 : wr.frozen? ⟨pr, 1, none⟩ = false := blk_free HNz.out 1
          have z2 : wr.frozen? ⟨pr, 2, none⟩ = false := blk_free HNz.out 2
          have z3 : wr.frozen? ⟨pr, 3, none⟩ = false := blk_free HNz.out 3
          obtain ⟨V, hV⟩ : ∃ V, V = ((((wr.setCell ⟨pr, 0, none⟩ (.int .i64 1)).setCell ⟨pr, 1, none⟩ (.string ⟨#[]⟩)).setCell ⟨pr, 2, none⟩ (.int .i64 0)).setCell ⟨pr, 3, none⟩ (.slice ko o.length kc)).drew := ⟨_, rfl⟩
          have HV : Hid (V.heap[pr]? = some (.cells #[.int .i64 1, .string ⟨#[]⟩, .int .i64 0, .slice ko o.length kc] 50 (0, 0)) ∧ RefApPost w ao c ps (ps) ⟨1, [], 0, o⟩ (.returned (.tuple #[.slice ao (ps).length c, rrV ⟨1, [], 0, o⟩ ko kc])) V) := by
            rw [hV]
            have := rap_store (r := ⟨1, [], 0, o⟩) (w := w) (ao := ao) (c := c) (ps := ps) (PS := ps) (.inl ⟨rfl, rfl, rfl⟩) HO2.out HKr.out KW.out HN.out HPW.out
            exact ⟨this.1, this.2.drew⟩
          go_wp2_with fail
          go_region
          all_goals
            go_wp2
            rw [← hV]
            clear hV r0 r1 r2 r3
            have j0 := blk_at HV.out.1 0 rfl
            have j1 := blk_at HV.out.1 1 rfl
            have j2 := blk_at HV.out.1 2 rfl
            have j3 := blk_at HV.out.1 3 rfl
            exact bodyPost_ret (v := .tuple #[.slice ao (ps).length c, rrV ⟨1, [], 0, o⟩ ko kc]) (by simp [results, Tryz.results100, go_sem, j0, j1, j2, j3, rrV, bs]) rfl (by rw [← HF3.out]; exact HV.out.2)

end Go.Proofs.YtflnjlbafchnaaaGreatDoor
