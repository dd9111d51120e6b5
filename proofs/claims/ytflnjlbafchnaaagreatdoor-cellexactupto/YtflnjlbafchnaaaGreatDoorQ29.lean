/-
  Joined: WKv17.
-/
import Derived.Test.YtflnjlbafchnaaaGreatDoorQ27
import Derived.Test.YtflnjlbafchnaaaGreatDoorQ05
/-
  kv: the document's Apply: delete.
-/
namespace Go.Proofs.YtflnjlbafchnaaaGreatDoor
open Go.RowKit

/-- What is left behind so many rounds. -/
def delK (r k : Nat) (ps : List Pr) : List Pr := if k ≤ r then ps.take k else delP r (ps.take k)
theorem delK_zero {r : Nat} {ps : List Pr} : delK r 0 ps = [] := by unfold delK; rw [if_pos (Nat.zero_le _)]; rfl
theorem delK_skip {r : Nat} {ps : List Pr} (h : r < ps.length) : delK r r ps = delK r (r + 1) ps := by
  unfold delK
  rw [if_pos (Nat.le_refl _), if_neg (by omega)]
  unfold delP
  rw [List.take_take, Nat.min_eq_left (by omega), List.drop_eq_nil_of_le (by rw [List.length_take]; omega), List.append_nil]
theorem delK_more {r k : Nat} {ps : List Pr} (h : k < ps.length) (hne : k ≠ r) : delK r (k + 1) ps = delK r k ps ++ [ps[k]] := by
  unfold delK
  by_cases hk : k < r
  · rw [if_pos (by omega), if_pos (by omega), List.take_succ_eq_append_getElem h]
  · rw [if_neg (by omega), if_neg (by omega)]
    unfold delP
    rw [List.take_take, List.take_take, Nat.min_eq_left (by omega), Nat.min_eq_left (by omega), List.take_succ_eq_append_getElem h, List.drop_append_of_le_length (by rw [List.length_take]; omega), List.append_assoc]
theorem delK_all {r : Nat} {ps : List Pr} (h : r < ps.length) : delK r ps.length ps = delP r ps := by
  unfold delK
  rw [if_neg (by omega), List.take_length]
set_option maxRecDepth 100000 in
set_option maxHeartbeats 4000000 in
theorem refAp3N (B c : Nat) (ao : Option Addr) (ps : List Pr) (ck val : List UInt8) (m : Int) (w : World) (h : PairRow B w ao ps) (hok : pairsOk ps = true) (hcm : isCmd 3 ck val m = true) (hn0 : (spotN ck ps) = 0) (hl : (ps.length : Int) ≤ 3518437208780) (hck : ck.length ≤ maxLen) (hval : val.length ≤ maxLen) :
    Calls Tryz.prog 100 #[.slice ao ps.length c, .agg #[.int .i64 3, .string (bs ck), .string (bs val), .int .i64 m]] w (RefApPost w ao c ps (ps) (⟨2, [], 0, []⟩)) := by
  obtain ⟨W, hW⟩ : ∃ W, W = (w.alloc (.cells #[.int .i64 3, .string (bs ck), .string (bs val), .int .i64 m] 31)).alloc (.cells #[.int .i64 0, .string ⟨#[]⟩, .int .i64 0, .slice none 0 0] 50) := ⟨_, rfl⟩
  have KW : Hid (Kept Nil w W) := by rw [hW]; exact ((Kept.refl _ _).alloc _).alloc _
  have HC : Hid (W.heap[w.heap.size]? = some (.cells #[.int .i64 3, .string (bs ck), .string (bs val), .int .i64 m] 31 (0, 0))) := by rw [hW]; exact blk_past (blk_new _ _) _
  have HN : Hid (W.heap[w.heap.size + 1]? = some (.cells #[.int .i64 0, .string ⟨#[]⟩, .int .i64 0, .slice none 0 0] 50 (0, 0))) := by
    rw [hW]
    have := blk_new (w.alloc (.cells #[.int .i64 3, .string (bs ck), .string (bs val), .int .i64 m] 31)) (.cells #[.int .i64 0, .string ⟨#[]⟩, .int .i64 0, .slice none 0 0] 50)
    show _ = _
    simpa using this
  have HPW : Hid (w.heap.size ≤ w.heap.size + 1) := Nat.le_succ _
  have HR : Hid (PairRow B W ao ps) := h.nil KW.out
  have CM := refIsCommand_any 3 m ck val W hck hval
  obtain ⟨hl32, hsrt, hpr⟩ := pairs_ok hok
  obtain ⟨s1, s2, s3, s4⟩ := spot_ok hok ck
  obtain ⟨hv64, hm0⟩ := isCmd_val hcm
  obtain ⟨n, HNn⟩ : ∃ n, Hid (n = spotN ck ps) := ⟨_, rfl⟩
  obtain ⟨v, HVn⟩ : ∃ v, Hid (v = spotV ck ps) := ⟨_, rfl⟩
  rw [← HNn.out] at s1 s2 s3 hn0
  have HN0 : Hid (_) := hn0
  clear hn0
  rw [← HVn.out] at s4
  have HVe : Hid (n = 0 → v = []) := fun e => by
    rw [HVn.out]
    unfold spotV
    rw [if_neg (fun x => s2.2 x e)]
  have HSp : Hid ((n = 0 → getP ck ps = -1) ∧ (n ≠ 0 → getP ck ps = (lowP ck ps : Int) ∧ ∃ hl : lowP ck ps < ps.length, ps[lowP ck ps].n = n ∧ ps[lowP ck ps].v = v)) := by
    refine ⟨fun e => ?_, fun e => ?_⟩
    · unfold getP
      rw [if_neg (fun x => s2.2 x e)]
    · obtain ⟨hlow, _, e2, e3⟩ := there_at (s2.1 e)
      refine ⟨by unfold getP; rw [if_pos (s2.1 e)], hlow, ?_, ?_⟩
      · rw [← e3, ← HNn.out]
      · rw [← e2, ← HVn.out]
  obtain ⟨q, HQ⟩ : ∃ q, Hid (q = getP ck ps) := ⟨_, rfl⟩
  rw [← HQ.out] at HSp
  rw [hcm] at CM
  go_enter Tryz.func100, Tryz.ntmps100
  go_wp2_with fail
  rw [← hW]
  obtain ⟨C, HCe⟩ : ∃ C, Hid (C = w.heap.size) := ⟨_, rfl⟩
  obtain ⟨pr, HPe⟩ : ∃ pr, Hid (pr = w.heap.size + 1) := ⟨_, rfl⟩
  rw [← HPe.out] at HN HPW ⊢
  rw [← HCe.out] at HC ⊢
  clear hW h
  go_fit CM
  rintro _ w1 ⟨rfl, k1⟩
  have K1 : Hid (Kept Nil W w1) := k1
  clear k1 CM
  have IP := refIsPairs_any B c ao ps w1 (HR.out.nil K1.out) (by omega)
  rw [hok] at IP
  go_wp2_with fail
  go_fit IP
  rintro _ w2 ⟨rfl, k2⟩
  have K2 : Hid (Kept Nil W w2) := K1.out.trans k2
  clear k2 IP K1
  have d1 : w2.cell? ⟨C, 1, none⟩ = some (.string (bs ck)) := blk_at (K2.out.block _ _ HC.out (fun x => x.elim)) 1 rfl
  have GET := refGet_any B c ao ps ck w2 (HR.out.nil K2.out) hsrt (by omega)
  rw [← HQ.out] at GET
  go_wp2_with fail
  go_fit GET
  rintro _ w2 ⟨rfl, rfl⟩
  clear GET d1
  obtain ⟨ob, HOe⟩ : ∃ ob, Hid (ob = w2.heap.size) := ⟨_, rfl⟩
  have HOB : Hid (W.heap.size ≤ ob) := by show _ ≤ _; rw [HOe.out]; exact K2.out.size
  go_upto_region 7 with fail
  rw [← HOe.out]
  go_cut [33] (fun x wc => x = .bool (decide (n ≠ 0)) ∧ wc = w2.alloc (.cells #[.string ⟨#[]⟩, .string ⟨#[]⟩, .int .i64 0] 63))
  case first =>
    by_cases e : n = 0
    · have e0 := HSp.out.1 e
      subst e0
      go_wp2
      go_meet
      exact ⟨by rw [decide_eq_false (fun x => x e)], rfl⟩
    · obtain ⟨e1, hlow, e2⟩ := HSp.out.2 e
      subst e1
      go_wp2
      go_meet
      exact ⟨by rw [decide_eq_true e], rfl⟩
  case rest =>
    obtain ⟨rfl, rfl⟩ := hcut
    go_upto_if 33 with fail
    go_cut [] (fun wc => ∃ z, Hid (wc.heap[ob]? = some (.cells #[.string z, .string (bs v), .int .i64 n] 63 (0, 0))) ∧ Hid (Kept Nil W wc))
    case first =>
      have HX : Hid ((w2.alloc (.cells #[.string ⟨#[]⟩, .string ⟨#[]⟩, .int .i64 0] 63)).heap[ob]? = some (.cells #[.string ⟨#[]⟩, .string ⟨#[]⟩, .int .i64 0] 63 (0, 0))) := by rw [HOe.out]; exact blk_new _ _
      by_cases e : n = 0
      · have hv := HVe.out e
        subst e
        subst hv
        have e0 : decide ((0 : Int) ≠ 0) = false := by decide
        rw [e0]
        go_wp2
        go_meet
        exact ⟨_, HX.out, K2.out.alloc _⟩
      · obtain ⟨e1, hlow, e2, e3⟩ := HSp.out.2 e
        subst e1
        have e0 : decide (n ≠ 0) = true := decide_eq_true e
        rw [e0]
        obtain ⟨a, rfl, hab, hc0, hc1, hc2, _, _⟩ := (HR.out.nil (K2.out.alloc (.cells #[.string ⟨#[]⟩, .string ⟨#[]⟩, .int .i64 0] 63))) (lowP ck ps) hlow
        rw [e2] at hc2
        rw [e3] at hc1
        have hki : ((lowP ck ps : Nat) : Int) < ps.length := by omega
        generalize ps[lowP ck ps].k = kk at *
        generalize lowP ck ps = r at *
        obtain ⟨X1, hX1⟩ : ∃ X1, X1 = w2.alloc (.cells #[.string ⟨#[]⟩, .string ⟨#[]⟩, .int .i64 0] 63) := ⟨_, rfl⟩
        rw [← hX1] at HX hc0 hc1 hc2 ⊢
        have x0 : X1.cell? ⟨ob, 0, none⟩ = some (.string ⟨#[]⟩) := blk_at HX.out 0 rfl
        have x1 : X1.cell? ⟨ob, 1, none⟩ = some (.string ⟨#[]⟩) := blk_at HX.out 1 rfl
        have x2 : X1.cell? ⟨ob, 2, none⟩ = some (.int .i64 0) := blk_at HX.out 2 rfl
        have f0 : X1.frozen? ⟨ob, 0, none⟩ = false := blk_free HX.out 0
        have f1 : X1.frozen? ⟨ob, 1, none⟩ = false := blk_free HX.out 1
        have f2 : X1.frozen? ⟨ob, 2, none⟩ = false := blk_free HX.out 2
        have KX : Hid (Kept Nil W X1) := by rw [hX1]; exact K2.out.alloc _
        clear hX1
        go_wp2
        go_meet
        exact ⟨_, blk_set (blk_set (blk_set HX.out 0 _) 1 _) 2 _, ((KX.out.setNew (p := ⟨ob, 0, none⟩) HOB.out _).setNew (p := ⟨ob, 1, none⟩) HOB.out _).setNew (p := ⟨ob, 2, none⟩) HOB.out _⟩
    case rest =>
      obtain ⟨z, HX, HK⟩ := hcut
      rename World => X
      have x1 : X.cell? ⟨ob, 1, none⟩ = some (.string (bs v)) := blk_at HX.out 1 rfl
      have x2 : X.cell? ⟨ob, 2, none⟩ = some (.int .i64 n) := blk_at HX.out 2 rfl
      have d0 : X.cell? ⟨C, 0, none⟩ = some (.int .i64 3) := blk_at (HK.out.block _ _ HC.out (fun x => x.elim)) 0 rfl
      have d1 : X.cell? ⟨C, 1, none⟩ = some (.string (bs ck)) := blk_at (HK.out.block _ _ HC.out (fun x => x.elim)) 1 rfl
      have d2 : X.cell? ⟨C, 2, none⟩ = some (.string (bs val)) := blk_at (HK.out.block _ _ HC.out (fun x => x.elim)) 2 rfl
      have d3 : X.cell? ⟨C, 3, none⟩ = some (.int .i64 m) := blk_at (HK.out.block _ _ HC.out (fun x => x.elim)) 3 rfl
      have HRX : Hid (PairRow B X ao ps) := HR.out.nil HK.out
      clear HOe K2
      have hn0 := HN0.out
      have e0 := HSp.out.1 hn0
      subst e0
      have HNz : Hid (X.heap[pr]? = some (.cells #[.int .i64 0, .string ⟨#[]⟩, .int .i64 0, .slice none 0 0] 50 (0, 0))) := HK.out.block _ _ HN.out (fun x => x.elim)
      have r0 : X.cell? ⟨pr, 0, none⟩ = some (.int .i64 0) := blk_at HNz.out 0 rfl
      have r1 : X.cell? ⟨pr, 1, none⟩ = some (.string ⟨#[]⟩) := blk_at HNz.out 1 rfl
      have r2 : X.cell? ⟨pr, 2, none⟩ = some (.int .i64 0) := blk_at HNz.out 2 rfl
      have r3 : X.cell? ⟨pr, 3, none⟩ = some (.slice none 0 0) := blk_at HNz.out 3 rfl
      have z0 : X.frozen? ⟨pr, 0, none⟩ = false := blk_free HNz.out 0
      have z1 : X.frozen? ⟨pr, 1, none⟩ = false := blk_free HNz.out 1
      have z2 : X.frozen? ⟨pr, 2, none⟩ = false := blk_free HNz.out 2
      have z3 : X.frozen? ⟨pr, 3, none⟩ = false := blk_free HNz.out 3
      obtain ⟨V, hV⟩ : ∃ V, V = (((X.setCell ⟨pr, 0, none⟩ (.int .i64 2)).setCell ⟨pr, 1, none⟩ (.string ⟨#[]⟩)).setCell ⟨pr, 2, none⟩ (.int .i64 0)).setCell ⟨pr, 3, none⟩ (.slice none 0 0) := ⟨_, rfl⟩
      have HV : Hid (V.heap[pr]? = some (.cells #[.int .i64 2, .string ⟨#[]⟩, .int .i64 0, .slice none 0 0] 50 (0, 0)) ∧ RefApPost w ao c ps (ps) ⟨2, [], 0, []⟩ (.returned (.tuple #[.slice ao (ps).length c, rrV ⟨2, [], 0, []⟩ none 0])) V) := by
        rw [hV]
        have := rap_store (r := ⟨2, [], 0, []⟩) (w := w) (ao := ao) (c := c) (ps := ps) (PS := ps) (.inl ⟨rfl, rfl, rfl⟩) (OwnK.nil _ _) HK.out KW.out HN.out HPW.out
        exact this
      go_wp2
      rw [← hV]
      clear hV r0 r1 r2 r3
      have j0 := blk_at HV.out.1 0 rfl
      have j1 := blk_at HV.out.1 1 rfl
      have j2 := blk_at HV.out.1 2 rfl
      have j3 := blk_at HV.out.1 3 rfl
      exact bodyPost_ret (v := .tuple #[.slice ao (ps).length c, rrV ⟨2, [], 0, []⟩ none 0]) (by simp [results, Tryz.results100, go_sem, j0, j1, j2, j3, rrV, bs]) rfl HV.out.2
set_option maxRecDepth 100000 in
set_option maxHeartbeats 4000000 in
theorem refAp3Y (B c : Nat) (ao : Option Addr) (ps : List Pr) (ck val : List UInt8) (m : Int) (w : World) (h : PairRow B w ao ps) (hok : pairsOk ps = true) (hcm : isCmd 3 ck val m = true) (hn0 : (spotN ck ps) ≠ 0) (hl : (ps.length : Int) ≤ 3518437208780) (hck : ck.length ≤ maxLen) (hval : val.length ≤ maxLen) :
    Calls Tryz.prog 100 #[.slice ao ps.length c, .agg #[.int .i64 3, .string (bs ck), .string (bs val), .int .i64 m]] w (RefApPost w ao c ps (delP (lowP ck ps) ps) (⟨1, [], (spotN ck ps), []⟩)) := by
  obtain ⟨W, hW⟩ : ∃ W, W = (w.alloc (.cells #[.int .i64 3, .string (bs ck), .string (bs val), .int .i64 m] 31)).alloc (.cells #[.int .i64 0, .string ⟨#[]⟩, .int .i64 0, .slice none 0 0] 50) := ⟨_, rfl⟩
  have KW : Hid (Kept Nil w W) := by rw [hW]; exact ((Kept.refl _ _).alloc _).alloc _
  have HC : Hid (W.heap[w.heap.size]? = some (.cells #[.int .i64 3, .string (bs ck), .string (bs val), .int .i64 m] 31 (0, 0))) := by rw [hW]; exact blk_past (blk_new _ _) _
  have HN : Hid (W.heap[w.heap.size + 1]? = some (.cells #[.int .i64 0, .string ⟨#[]⟩, .int .i64 0, .slice none 0 0] 50 (0, 0))) := by
    rw [hW]
    have := blk_new (w.alloc (.cells #[.int .i64 3, .string (bs ck), .string (bs val), .int .i64 m] 31)) (.cells #[.int .i64 0, .string ⟨#[]⟩, .int .i64 0, .slice none 0 0] 50)
    show _ = _
    simpa using this
  have HPW : Hid (w.heap.size ≤ w.heap.size + 1) := Nat.le_succ _
  have HR : Hid (PairRow B W ao ps) := h.nil KW.out
  have CM := refIsCommand_any 3 m ck val W hck hval
  obtain ⟨i0, hi, hz0, hz1, hz2⟩ := info_parts Tryz.infoPr
  obtain ⟨hl32, hsrt, hpr⟩ := pairs_ok hok
  obtain ⟨s1, s2, s3, s4⟩ := spot_ok hok ck
  obtain ⟨hv64, hm0⟩ := isCmd_val hcm
  obtain ⟨n, HNn⟩ : ∃ n, Hid (n = spotN ck ps) := ⟨_, rfl⟩
  obtain ⟨v, HVn⟩ : ∃ v, Hid (v = spotV ck ps) := ⟨_, rfl⟩
  rw [← HNn.out] at s1 s2 s3 hn0 ⊢
  have HN0 : Hid (_) := hn0
  clear hn0
  rw [← HVn.out] at s4
  have HVe : Hid (n = 0 → v = []) := fun e => by
    rw [HVn.out]
    unfold spotV
    rw [if_neg (fun x => s2.2 x e)]
  have HSp : Hid ((n = 0 → getP ck ps = -1) ∧ (n ≠ 0 → getP ck ps = (lowP ck ps : Int) ∧ ∃ hl : lowP ck ps < ps.length, ps[lowP ck ps].n = n ∧ ps[lowP ck ps].v = v)) := by
    refine ⟨fun e => ?_, fun e => ?_⟩
    · unfold getP
      rw [if_neg (fun x => s2.2 x e)]
    · obtain ⟨hlow, _, e2, e3⟩ := there_at (s2.1 e)
      refine ⟨by unfold getP; rw [if_pos (s2.1 e)], hlow, ?_, ?_⟩
      · rw [← e3, ← HNn.out]
      · rw [← e2, ← HVn.out]
  obtain ⟨lw, HLW⟩ : ∃ lw, Hid (lw = lowP ck ps) := ⟨_, rfl⟩
  rw [← HLW.out] at HSp s3 ⊢
  obtain ⟨q, HQ⟩ : ∃ q, Hid (q = getP ck ps) := ⟨_, rfl⟩
  rw [← HQ.out] at HSp
  rw [hcm] at CM
  go_enter Tryz.func100, Tryz.ntmps100
  go_wp2_with fail
  rw [← hW]
  obtain ⟨C, HCe⟩ : ∃ C, Hid (C = w.heap.size) := ⟨_, rfl⟩
  obtain ⟨pr, HPe⟩ : ∃ pr, Hid (pr = w.heap.size + 1) := ⟨_, rfl⟩
  rw [← HPe.out] at HN HPW ⊢
  rw [← HCe.out] at HC ⊢
  clear hW h
  go_fit CM
  rintro _ w1 ⟨rfl, k1⟩
  have K1 : Hid (Kept Nil W w1) := k1
  clear k1 CM
  have IP := refIsPairs_any B c ao ps w1 (HR.out.nil K1.out) (by omega)
  rw [hok] at IP
  go_wp2_with fail
  go_fit IP
  rintro _ w2 ⟨rfl, k2⟩
  have K2 : Hid (Kept Nil W w2) := K1.out.trans k2
  clear k2 IP K1
  have d1 : w2.cell? ⟨C, 1, none⟩ = some (.string (bs ck)) := blk_at (K2.out.block _ _ HC.out (fun x => x.elim)) 1 rfl
  have GET := refGet_any B c ao ps ck w2 (HR.out.nil K2.out) hsrt (by omega)
  rw [← HQ.out] at GET
  go_wp2_with fail
  go_fit GET
  rintro _ w2 ⟨rfl, rfl⟩
  clear GET d1
  obtain ⟨ob, HOe⟩ : ∃ ob, Hid (ob = w2.heap.size) := ⟨_, rfl⟩
  have HOB : Hid (W.heap.size ≤ ob) := by show _ ≤ _; rw [HOe.out]; exact K2.out.size
  go_upto_region 7 with fail
  rw [← HOe.out]
  go_cut [33] (fun x wc => x = .bool (decide (n ≠ 0)) ∧ wc = w2.alloc (.cells #[.string ⟨#[]⟩, .string ⟨#[]⟩, .int .i64 0] 63))
  case first =>
    by_cases e : n = 0
    · have e0 := HSp.out.1 e
      subst e0
      go_wp2
      go_meet
      exact ⟨by rw [decide_eq_false (fun x => x e)], rfl⟩
    · obtain ⟨e1, hlow, e2⟩ := HSp.out.2 e
      subst e1
      go_wp2
      go_meet
      exact ⟨by rw [decide_eq_true e], rfl⟩
  case rest =>
    obtain ⟨rfl, rfl⟩ := hcut
    go_upto_if 33 with fail
    go_cut [] (fun wc => ∃ z, Hid (wc.heap[ob]? = some (.cells #[.string z, .string (bs v), .int .i64 n] 63 (0, 0))) ∧ Hid (Kept Nil W wc))
    case first =>
      have HX : Hid ((w2.alloc (.cells #[.string ⟨#[]⟩, .string ⟨#[]⟩, .int .i64 0] 63)).heap[ob]? = some (.cells #[.string ⟨#[]⟩, .string ⟨#[]⟩, .int .i64 0] 63 (0, 0))) := by rw [HOe.out]; exact blk_new _ _
      by_cases e : n = 0
      · have hv := HVe.out e
        subst e
        subst hv
        have e0 : decide ((0 : Int) ≠ 0) = false := by decide
        rw [e0]
        go_wp2
        go_meet
        exact ⟨_, HX.out, K2.out.alloc _⟩
      · obtain ⟨e1, hlow, e2, e3⟩ := HSp.out.2 e
        subst e1
        have e0 : decide (n ≠ 0) = true := decide_eq_true e
        rw [e0]
        obtain ⟨a, rfl, hab, hc0, hc1, hc2, _, _⟩ := (HR.out.nil (K2.out.alloc (.cells #[.string ⟨#[]⟩, .string ⟨#[]⟩, .int .i64 0] 63))) (lw) hlow
        rw [e2] at hc2
        rw [e3] at hc1
        have hki : ((lw : Nat) : Int) < ps.length := by omega
        generalize ps[lw].k = kk at *
        obtain ⟨X1, hX1⟩ : ∃ X1, X1 = w2.alloc (.cells #[.string ⟨#[]⟩, .string ⟨#[]⟩, .int .i64 0] 63) := ⟨_, rfl⟩
        rw [← hX1] at HX hc0 hc1 hc2 ⊢
        have x0 : X1.cell? ⟨ob, 0, none⟩ = some (.string ⟨#[]⟩) := blk_at HX.out 0 rfl
        have x1 : X1.cell? ⟨ob, 1, none⟩ = some (.string ⟨#[]⟩) := blk_at HX.out 1 rfl
        have x2 : X1.cell? ⟨ob, 2, none⟩ = some (.int .i64 0) := blk_at HX.out 2 rfl
        have f0 : X1.frozen? ⟨ob, 0, none⟩ = false := blk_free HX.out 0
        have f1 : X1.frozen? ⟨ob, 1, none⟩ = false := blk_free HX.out 1
        have f2 : X1.frozen? ⟨ob, 2, none⟩ = false := blk_free HX.out 2
        have KX : Hid (Kept Nil W X1) := by rw [hX1]; exact K2.out.alloc _
        clear hX1
        go_wp2
        go_meet
        exact ⟨_, blk_set (blk_set (blk_set HX.out 0 _) 1 _) 2 _, ((KX.out.setNew (p := ⟨ob, 0, none⟩) HOB.out _).setNew (p := ⟨ob, 1, none⟩) HOB.out _).setNew (p := ⟨ob, 2, none⟩) HOB.out _⟩
    case rest =>
      obtain ⟨z, HX, HK⟩ := hcut
      rename World => X
      have x1 : X.cell? ⟨ob, 1, none⟩ = some (.string (bs v)) := blk_at HX.out 1 rfl
      have x2 : X.cell? ⟨ob, 2, none⟩ = some (.int .i64 n) := blk_at HX.out 2 rfl
      have d0 : X.cell? ⟨C, 0, none⟩ = some (.int .i64 3) := blk_at (HK.out.block _ _ HC.out (fun x => x.elim)) 0 rfl
      have d1 : X.cell? ⟨C, 1, none⟩ = some (.string (bs ck)) := blk_at (HK.out.block _ _ HC.out (fun x => x.elim)) 1 rfl
      have d2 : X.cell? ⟨C, 2, none⟩ = some (.string (bs val)) := blk_at (HK.out.block _ _ HC.out (fun x => x.elim)) 2 rfl
      have d3 : X.cell? ⟨C, 3, none⟩ = some (.int .i64 m) := blk_at (HK.out.block _ _ HC.out (fun x => x.elim)) 3 rfl
      have HRX : Hid (PairRow B X ao ps) := HR.out.nil HK.out
      clear HOe K2
      have hn0 := HN0.out
      obtain ⟨e1, hlow, _, _⟩ := HSp.out.2 hn0
      subst e1
      have hq0 : ¬ ((lw : Nat) : Int) < 0 := by omega
      have hqb : decide (((lw : Nat) : Int) < 0) = false := decide_eq_false hq0
      clear x1 x2
      go_wp2_with fail
      go_loopg [13, 14] ps.length (fun g s13 s14 wr => ∃ k : Nat, ∃ o : List Pr, ∃ ao' c', k ≤ ps.length ∧ g = ps.length - k ∧ s13 = .slice ao' o.length c' ∧ s14 = .int .i64 k ∧ Hid (o = delK lw k ps) ∧ o.length ≤ k ∧ Hid (OwnP (ob + 1) wr ao' c' o) ∧ Hid (wr.heap[ob]? = some (.cells #[.string z, .string (bs v), .int .i64 n] 63 (0, 0))) ∧ Hid (Kept Nil W wr))
      case atStart => exact ⟨0, [], none, 0, Nat.zero_le _, rfl, rfl, rfl, delK_zero.symm, by simp, World.ownsRow_nil _ _ _ _, HX.out, HK.out⟩
      case round =>
        obtain ⟨k, o, ao', c', hk, rfl, rfl, rfl, HF, hol, HO, HXr, HKr⟩ := hrel
        clear d0 d1 d2 d3
        rename World => wr
        by_cases hlt : k < ps.length
        · obtain ⟨a, rfl, _, hc0, hc1, hc2, _, _⟩ := HR.out.nil HKr.out k hlt
          have hki : (k : Int) < ps.length := by omega
          by_cases hkl : k = lw
          · have HF2 : Hid (o = delK lw (k + 1) ps) := by show _ = _; rw [HF.out, hkl]; exact delK_skip (by omega)
            have hkb : ((k : Int) == (lw : Int)) = true := by rw [beq_iff_eq]; omega
            have hkb2 : ((k : Int) != (lw : Int)) = false := by rw [bne, hkb]; rfl
            clear hkl
            go_wp2
            go_roundg (ps.length - (k + 1))
            case measure => omega
            case rel => exact ⟨k + 1, o, ao', c', by omega, rfl, rfl, by go_num, HF2.out, by omega, HO.out, HXr.out, HKr.out⟩
          · obtain ⟨y, HY⟩ : ∃ y : Pr, Hid (y = ps[k]) := ⟨ps[k], (rfl : ps[k] = ps[k])⟩
            have HF2 : Hid (o ++ [y] = delK lw (k + 1) ps) := by show _ = _; rw [HF.out, HY.out]; exact (delK_more hlt hkl).symm
            rw [← HY.out] at hc0 hc1 hc2
            have hkb : ((k : Int) == (lw : Int)) = false := beq_eq_false_iff_ne.2 (by omega)
            have hkb2 : ((k : Int) != (lw : Int)) = true := by rw [bne, hkb]; rfl
            have HOO : Hid (wr.ownsRow (ob + 1) 63 3 (.slice ao' o.length c') o.length (kvCells o)) := HO.out
            have HLL : Hid (o.length + 1 ≤ maxLen ∧ (o.length + 1) * 40 ≤ 140737488355328) := by constructor <;> (try unfold maxLen) <;> omega
            clear HF HY
            obtain ⟨yk, yv, yn⟩ := y
            go_wp2_with (at_builtin; go_must (refine wpList_append_src _ rfl _ _ 55 55 rfl (ob + 1) 63 i0 (.agg #[.string ⟨#[]⟩, .string ⟨#[]⟩, .int .i64 0]) 3 40 Tryz.underlying55 hi hz0 hz1 hz2 rfl _ _ _ rfl (World.ownsRow.alloc HOO.out _) (.slice (some ⟨wr.heap.size, 0, none⟩) 1 1) 1 [.string (bs yk), .string (bs yv), .int .i64 yn] rfl (src_kv ⟨yk, yv, yn⟩) HLL.out.1 HLL.out.2 (le_alloc (lt_of_block HXr.out) _) ?_); intro ao2 c2 w4 ho' hg'; have HO4 : Hid (OwnP (ob + 1) w4 ao2 c2 (o ++ [(⟨yk, yv, yn⟩ : Pr)])) := OwnP.push (x := ⟨yk, yv, yn⟩) ho'; have HX4 : Hid (w4.heap[ob]? = some (.cells #[.string z, .string (bs v), .int .i64 n] 63 (0, 0))) := grown_blk hg' (blk_past HXr.out _) (fun e => by have := own_row HOO.out _ e; omega); have HK4 : Hid (Kept Nil W w4) := (HKr.out.alloc _).grown hg' (fun r hr => by have := own_row HOO.out r hr; have := HOB.out; omega); clear ho' hg')
            go_roundg (ps.length - (k + 1))
            case measure => omega
            case rel => exact ⟨k + 1, o ++ [(⟨yk, yv, yn⟩ : Pr)], ao2, c2, by omega, rfl, by rw [List.length_append]; rfl, by go_num, HF2.out, by rw [List.length_append]; simp; omega, HO4.out, HX4.out, HK4.out⟩
        · obtain rfl : k = ps.length := by omega
          have HF2 : Hid (o = delP lw ps) := by show _ = _; rw [HF.out]; exact delK_all hlow
          have HO2 : Hid (OwnP W.heap.size wr ao' c' (delP lw ps)) := by rw [← HF2.out]; exact own_mono HO.out (by have := HOB.out; omega)
          rw [HF2.out]
          have x2 : wr.cell? ⟨ob, 2, none⟩ = some (.int .i64 n) := blk_at HXr.out 2 rfl
          generalize delP lw ps = PS at *
          have HNz : Hid (wr.heap[pr]? = some (.cells #[.int .i64 0, .string ⟨#[]⟩, .int .i64 0, .slice none 0 0] 50 (0, 0))) := HKr.out.block _ _ HN.out (fun x => x.elim)
          have r0 : wr.cell? ⟨pr, 0, none⟩ = some (.int .i64 0) := blk_at HNz.out 0 rfl
          have r1 : wr.cell? ⟨pr, 1, none⟩ = some (.string ⟨#[]⟩) := blk_at HNz.out 1 rfl
          have r2 : wr.cell? ⟨pr, 2, none⟩ = some (.int .i64 0) := blk_at HNz.out 2 rfl
          have r3 : wr.cell? ⟨pr, 3, none⟩ = some (.slice none 0 0) := blk_at HNz.out 3 rfl
          have z0 : wr.frozen? ⟨pr, 0, none⟩ = false := blk_free HNz.out 0
          have z1 : wr.frozen? ⟨pr, 1, none⟩ = false := blk_free HNz.out 1
          have z2 : wr.frozen? ⟨pr, 2, none⟩ = false := blk_free HNz.out 2
          have z3 : wr.frozen? ⟨pr, 3, none⟩ = false := blk_free HNz.out 3
          obtain ⟨V, hV⟩ : ∃ V, V = ((((wr.setCell ⟨pr, 0, none⟩ (.int .i64 1)).setCell ⟨pr, 1, none⟩ (.string ⟨#[]⟩)).setCell ⟨pr, 2, none⟩ (.int .i64 n)).setCell ⟨pr, 3, none⟩ (.slice none 0 0)).drew := ⟨_, rfl⟩
          have HV : Hid (V.heap[pr]? = some (.cells #[.int .i64 1, .string ⟨#[]⟩, .int .i64 n, .slice none 0 0] 50 (0, 0)) ∧ RefApPost w ao c ps (PS) ⟨1, [], n, []⟩ (.returned (.tuple #[.slice ao' (PS).length c', rrV ⟨1, [], n, []⟩ none 0])) V) := by
            rw [hV]
            have := rap_store (r := ⟨1, [], n, []⟩) (w := w) (ao := ao) (c := c) (ps := ps) (PS := PS) (.inr HO2.out) (OwnK.nil _ _) HKr.out KW.out HN.out HPW.out
            exact ⟨this.1, this.2.drew⟩
          go_wp2_with fail
          go_region
          all_goals
            go_wp2
            rw [← hV]
            clear hV r0 r1 r2 r3
            have j0 := blk_at HV.out.1 0 rfl
            have j1 := blk_at HV.out.1 1 rfl
            have j2 := blk_at HV.out.1 2 rfl
            have j3 := blk_at HV.out.1 3 rfl
            exact bodyPost_ret (v := .tuple #[.slice ao' (PS).length c', rrV ⟨1, [], n, []⟩ none 0]) (by simp [results, Tryz.results100, go_sem, j0, j1, j2, j3, rrV, bs]) rfl HV.out.2

end Go.Proofs.YtflnjlbafchnaaaGreatDoor
