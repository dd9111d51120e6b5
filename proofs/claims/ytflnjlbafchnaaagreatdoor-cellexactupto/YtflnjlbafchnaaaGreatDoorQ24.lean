/-
  Joined: WKv14.
-/
import Derived.Test.YtflnjlbafchnaaaGreatDoorQ23
/-
  kv: the document's put, where there is room.
-/
namespace Go.Proofs.YtflnjlbafchnaaaGreatDoor
open Go.RowKit

theorem step_first (key : List UInt8) (x : Pr) (o : List Pr) (d : Bool) (p : Pr) : stepP key x (o, d) p = (if p.k = key then (if (!d && !lessB p.k key) = true then (o ++ [x], true) else (o, d)) else ((if (!d && !lessB p.k key) = true then (o ++ [x], true) else (o, d)).1 ++ [p], (if (!d && !lessB p.k key) = true then (o ++ [x], true) else (o, d)).2)) := by
  unfold stepP
  cases d <;> cases lessB p.k key <;> simp
theorem less_asym {a b : List UInt8} (h : lessB a b = true) : lessB b a = false := by
  cases hb : lessB b a with
  | false => rfl
  | true => exact absurd (less_trans h hb) (by rw [less_irrefl]; simp)
theorem le_no {y key : List UInt8} (h : Op.bytesLess y key = true) : Op.bytesLess key y = false ∧ ¬ key = y := ⟨less_asym h, fun e => by subst e; have := less_irrefl key; unfold lessB at this; rw [this] at h; cases h⟩
theorem le_yes {y key : List UInt8} (h : Op.bytesLess y key = false) : Op.bytesLess key y = true ∨ key = y := by
  by_cases e : key = y
  · exact .inr e
  · exact .inl (less_total h (fun x => e x.symm))
set_option maxRecDepth 100000 in
set_option maxHeartbeats 4000000 in
theorem refPutY_any (B c : Nat) (ao : Option Addr) (ps : List Pr) (key val : List UInt8) (w : World) (h : PairRow B w ao ps) (hok : pairsOk ps = true) (hrm : roomB ps.length (spotN key ps) val = true) :
    Calls Tryz.prog 133 #[.slice ao ps.length c, .string (bs key), .string (bs val)] w (RefApPost w ao c ps (putP key val (spotN key ps) (lowP key ps) ps) (putRr val (spotN key ps) ps.length)) := by
  obtain ⟨i0, hi, hz0, hz1, hz2⟩ := info_parts Tryz.infoPr
  obtain ⟨hl32, hsrt, hpr⟩ := pairs_ok hok
  obtain ⟨s1, s2, s3, _⟩ := spot_ok hok key
  obtain ⟨W, hW⟩ : ∃ W, W = w.alloc (.cells #[.int .i64 0, .string ⟨#[]⟩, .int .i64 0, .slice none 0 0] 50) := ⟨_, rfl⟩
  have KW : Hid (Kept Nil w W) := by rw [hW]; exact (Kept.refl _ _).alloc _
  have HN9 : Hid (W.heap[w.heap.size]? = some (.cells #[.int .i64 0, .string ⟨#[]⟩, .int .i64 0, .slice none 0 0] 50 (0, 0))) := by rw [hW]; exact blk_new _ _
  have HPW : Hid (New w w.heap.size) := Nat.le_refl _
  have HR : Hid (PairRow B W ao ps) := h.nil KW.out
  have GET := refGet_any B c ao ps key W HR.out hsrt (by omega)
  have hds : (bs val).size = val.length := bs_size _
  have ht := bs_toList
  obtain ⟨n, HNn⟩ : ∃ n, Hid (n = spotN key ps) := ⟨_, rfl⟩
  have HOut : Hid (outP key ⟨key, val, n + 1⟩ ps = putP key val n (lowP key ps) ps ∧ putRr val n ps.length = ⟨1, [], n + 1, []⟩) := by
    rw [← HNn.out] at hrm s2
    refine ⟨?_, (room_yes hrm key 0).2⟩
    rw [out_is hsrt, (room_yes hrm key _).1]
    by_cases e : n = 0
    · rw [if_pos e, if_neg (fun x => s2.2 x e)]
    · rw [if_neg e, if_pos (s2.1 e)]
  rw [← HNn.out] at s1 s2 s3 hrm ⊢
  rw [HOut.out.2, ← HOut.out.1]
  have hpi : (ps.length : Int) ≤ 32 := by omega
  obtain ⟨h64, hmx, hfull⟩ : val.length ≤ 64 ∧ n < 1099511627775 ∧ (n = 0 → ps.length ≠ 32) := by
    unfold roomB at hrm
    simp at hrm
    exact ⟨hrm.2.1, hrm.2.2, fun e => hrm.1.resolve_left (fun x => x e)⟩
  have h64i : (val.length : Int) ≤ 64 := by omega
  have hb64 : decide (64 < (val.length : Int)) = false := decide_eq_false (by omega)
  have hwr : IntKind.i64.wrap (n + 1) = n + 1 := by rw [IntKind.wrap_i64]; omega
  have HSp : Hid ((n = 0 → getP key ps = -1) ∧ (n ≠ 0 → getP key ps = (lowP key ps : Int) ∧ ∃ hl : lowP key ps < ps.length, ps[lowP key ps].n = n)) := by
    refine ⟨fun e => ?_, fun e => ?_⟩
    · unfold getP
      rw [if_neg (fun x => s2.2 x e)]
    · obtain ⟨hlow, _, _, e3⟩ := there_at (s2.1 e)
      refine ⟨by unfold getP; rw [if_pos (s2.1 e)], hlow, ?_⟩
      rw [← e3, ← HNn.out]
  clear h hsrt hok hrm s1 s2 s3 hpr
  obtain ⟨q, HQ⟩ : ∃ q, Hid (q = getP key ps) := ⟨_, rfl⟩
  rw [← HQ.out] at HSp GET
  go_enter Tryz.func133, Tryz.ntmps133
  go_wp2_with fail
  rw [← hW]
  generalize w.heap.size = pr at *
  clear hW
  go_fit GET
  rintro _ W ⟨rfl, rfl⟩
  clear GET
  go_upto_region 2 with fail
  go_cut [39] (fun x wc => x = .bool false ∧ wc = W)
  case first =>
    by_cases e : n = 0
    · have e0 := HSp.out.1 e
      subst e0
      have hne : ((ps.length : Int) == 32) = false := beq_eq_false_iff_ne.2 (by have := hfull e; omega)
      go_wp2
      go_meet
      exact ⟨by first | rfl | rw [hb64], rfl⟩
    · obtain ⟨e1, hlow, e2⟩ := HSp.out.2 e
      obtain ⟨a, rfl, _, _, _, hc2, _, _⟩ := HR.out (lowP key ps) hlow
      rw [e2] at hc2
      subst e1
      have hki : ((lowP key ps : Nat) : Int) < ps.length := by omega
      have hne : (n == 1099511627775) = false := beq_eq_false_iff_ne.2 (by omega)
      generalize lowP key ps = r at *
      go_wp2
      go_meet
      exact ⟨by first | rfl | rw [hb64], rfl⟩
  case rest =>
    obtain ⟨rfl, rfl⟩ := hcut
    rename World => W
    obtain ⟨xb, HXe⟩ : ∃ xb, Hid (xb = W.heap.size) := ⟨_, rfl⟩
    have HXB : Hid (W.heap.size ≤ xb) := by show _ ≤ _; rw [HXe.out]; exact Nat.le_refl _
    go_upto_region 5 with fail
    rw [← HXe.out]
    go_cut [46] (fun x wc => x = .bool (decide (n ≠ 0)) ∧ wc = W.alloc (.cells #[.string (bs key), .string (bs val), .int .i64 1] 63))
    case first =>
      by_cases e : n = 0
      · have e0 := HSp.out.1 e
        subst e0
        go_wp2
        go_meet
        exact ⟨by rw [decide_eq_false (fun x => x e)], rfl⟩
      · obtain ⟨e1, hlow, e2⟩ := HSp.out.2 e
        subst e1
        go_wp2
        go_meet
        exact ⟨by rw [decide_eq_true e], rfl⟩
    case rest =>
      obtain ⟨rfl, rfl⟩ := hcut
      go_upto_if 46 with fail
      go_cut [] (fun wc => Hid (wc.heap[xb]? = some (.cells #[.string (bs key), .string (bs val), .int .i64 (n + 1)] 63 (0, 0))) ∧ Hid (Kept Nil W wc))
      case first =>
        have HX : Hid ((W.alloc (.cells #[.string (bs key), .string (bs val), .int .i64 1] 63)).heap[xb]? = some (.cells #[.string (bs key), .string (bs val), .int .i64 1] 63 (0, 0))) := by rw [HXe.out]; exact blk_new _ _
        by_cases e : n = 0
        · subst e
          have e0 : decide ((0 : Int) ≠ 0) = false := by decide
          rw [e0]
          go_wp2
          go_meet
          exact ⟨HX.out, (Kept.refl _ _).alloc _⟩
        · obtain ⟨e1, hlow, e2⟩ := HSp.out.2 e
          subst e1
          have e0 : decide (n ≠ 0) = true := decide_eq_true e
          rw [e0]
          obtain ⟨a, rfl, hab, _, _, hc2, _, _⟩ := (HR.out.nil ((Kept.refl _ _).alloc (.cells #[.string (bs key), .string (bs val), .int .i64 1] 63))) (lowP key ps) hlow
          rw [e2] at hc2
          have hki : ((lowP key ps : Nat) : Int) < ps.length := by omega
          generalize lowP key ps = r at *
          obtain ⟨W1, hW1⟩ : ∃ W1, W1 = W.alloc (.cells #[.string (bs key), .string (bs val), .int .i64 1] 63) := ⟨_, rfl⟩
          rw [← hW1] at HX hc2 ⊢
          have x2 : W1.cell? ⟨xb, 2, none⟩ = some (.int .i64 1) := blk_at HX.out 2 rfl
          have f2 : W1.frozen? ⟨xb, 2, none⟩ = false := blk_free HX.out 2
          have K1 : Hid (Kept Nil W W1) := by rw [hW1]; exact (Kept.refl _ _).alloc _
          clear hW1
          go_wp2
          go_meet
          exact ⟨blk_set HX.out 2 _, K1.out.setNew (p := ⟨xb, 2, none⟩) HXB.out _⟩
      case rest =>
        obtain ⟨HX, HK⟩ := hcut
        clear HSp HXe
        rename World => X0
        have HXs := HX
        have HKs := HK
        clear HX HK
        obtain ⟨x, HXX⟩ : ∃ x : Pr, Hid (x = ⟨key, val, n + 1⟩) := ⟨_, rfl⟩
        go_wp2_with fail
        go_loopg [10, 11, 12] ps.length (fun g s10 s11 s12 wr => ∃ k : Nat, ∃ o : List Pr, ∃ d : Bool, ∃ ao' c', k ≤ ps.length ∧ g = ps.length - k ∧ s10 = .slice ao' o.length c' ∧ s11 = .bool d ∧ s12 = .int .i64 k ∧ Hid ((o, d) = foldP key ⟨key, val, n + 1⟩ (ps.take k)) ∧ o.length ≤ 2 * k ∧ Hid (OwnP (xb + 1) wr ao' c' o) ∧ Hid (wr.heap[xb]? = some (.cells #[.string (bs key), .string (bs val), .int .i64 (n + 1)] 63 (0, 0))) ∧ Hid (Kept Nil W wr))
        case atStart => exact ⟨0, [], false, none, 0, Nat.zero_le _, rfl, rfl, rfl, rfl, rfl, by simp, World.ownsRow_nil _ _ _ _, HXs.out, HKs.out⟩
        case round =>
          obtain ⟨k, o, d, ao', c', hk, rfl, rfl, rfl, rfl, HF, hol, HO, HX, HK⟩ := hrel
          clear HXs HKs
          have x0 : (_ : World).cell? ⟨xb, 0, none⟩ = some (.string (bs key)) := blk_at HX.out 0 rfl
          have x1 : (_ : World).cell? ⟨xb, 1, none⟩ = some (.string (bs val)) := blk_at HX.out 1 rfl
          have x2 : (_ : World).cell? ⟨xb, 2, none⟩ = some (.int .i64 (n + 1)) := blk_at HX.out 2 rfl
          by_cases hlt : k < ps.length
          · obtain ⟨a, rfl, _, hc0, hc1, hc2, _, _⟩ := HR.out.nil HK.out k hlt
            have hki : (k : Int) < ps.length := by omega
            obtain ⟨y, HY⟩ : ∃ y : Pr, Hid (y = ps[k]) := ⟨ps[k], (rfl : ps[k] = ps[k])⟩
            have HF2 : Hid (foldP key ⟨key, val, n + 1⟩ (ps.take (k + 1)) = stepP key ⟨key, val, n + 1⟩ (o, d) y) := by show _ = _; rw [HF.out, HY.out]; exact foldP_snoc hlt
            rw [← HY.out] at hc0 hc1 hc2
            obtain ⟨t, HT⟩ : ∃ t : Bool, Hid (t = (!d && !lessB y.k key)) := ⟨_, rfl⟩
            have HF3 : Hid (stepP key ⟨key, val, n + 1⟩ (o, d) y = (if y.k = key then (if t = true then (o ++ [⟨key, val, n + 1⟩], true) else (o, d)) else ((if t = true then (o ++ [⟨key, val, n + 1⟩], true) else (o, d)).1 ++ [y], (if t = true then (o ++ [⟨key, val, n + 1⟩], true) else (o, d)).2))) := by show _ = _; rw [HT.out]; exact step_first _ _ _ _ _
            have HLB : Hid (lessB y.k key = Op.bytesLess y.k key) := rfl
            rename World => wr
            go_upto_region 12 with fail
            go_cut [70] (fun s wc => s = .bool t ∧ wc = wr)
            case first =>
              cases d with
              | true =>
                have HE : Hid (t = false) := by show _ = _; rw [HT.out]; rfl
                go_wp2
                go_meet
                exact ⟨by rw [HE.out], rfl⟩
              | false =>
                cases hls : Op.bytesLess y.k key with
                | true =>
                  have HE : Hid (t = false) := by show _ = _; rw [HT.out, HLB.out, hls]; rfl
                  go_wp2
                  go_meet
                  exact ⟨by rw [HE.out]; simp; exact le_no hls, rfl⟩
                | false =>
                  have HE : Hid (t = true) := by show _ = _; rw [HT.out, HLB.out, hls]; rfl
                  go_wp2
                  go_meet
                  exact ⟨by rw [HE.out]; simp; exact le_yes hls, rfl⟩
            case rest =>
              obtain ⟨rfl, rfl⟩ := hcut
              rename World => wr
              clear HLB HT
              go_upto_if 70 with fail
              go_cut [10, 11] (fun s10 s11 wc => ∃ o2 : List Pr, ∃ d2 : Bool, ∃ ao2 c2, s10 = .slice ao2 o2.length c2 ∧ s11 = .bool d2 ∧ Hid ((o2, d2) = (if t = true then (o ++ [⟨key, val, n + 1⟩], true) else (o, d))) ∧ o2.length ≤ 2 * k + 1 ∧ Hid (OwnP (xb + 1) wc ao2 c2 o2) ∧ Hid (wc.heap[xb]? = some (.cells #[.string (bs key), .string (bs val), .int .i64 (n + 1)] 63 (0, 0))) ∧ Hid (Kept Nil W wc))
              case first =>
                cases t with
                | true =>
                  have HOO : Hid (wr.ownsRow (xb + 1) 63 3 (.slice ao' o.length c') o.length (kvCells o)) := HO.out
                  have HLL : Hid (o.length + 1 ≤ maxLen ∧ (o.length + 1) * 40 ≤ 140737488355328) := by constructor <;> (try unfold maxLen) <;> omega
                  go_wp2_with (at_builtin; go_must (refine wpList_append_src _ rfl _ _ 55 55 rfl (xb + 1) 63 i0 (.agg #[.string ⟨#[]⟩, .string ⟨#[]⟩, .int .i64 0]) 3 40 Tryz.underlying55 hi hz0 hz1 hz2 rfl _ _ _ rfl (World.ownsRow.alloc HOO.out _) (.slice (some ⟨wr.heap.size, 0, none⟩) 1 1) 1 [.string (bs key), .string (bs val), .int .i64 (n + 1)] rfl (src_kv ⟨key, val, n + 1⟩) HLL.out.1 HLL.out.2 (le_alloc (lt_of_block HX.out) _) ?_); intro ao2 c2 w4 ho' hg'; have HO4 : Hid (OwnP (xb + 1) w4 ao2 c2 (o ++ [⟨key, val, n + 1⟩])) := OwnP.push (x := ⟨key, val, n + 1⟩) ho'; have HX4 : Hid (w4.heap[xb]? = some (.cells #[.string (bs key), .string (bs val), .int .i64 (n + 1)] 63 (0, 0))) := grown_blk hg' (blk_past HX.out _) (fun e => by have := own_row HOO.out _ e; omega); have HK4 : Hid (Kept Nil W w4) := (HK.out.alloc _).grown hg' (fun r hr => by have := own_row HOO.out r hr; have := HXB.out; omega); clear ho' hg')
                  go_meet
                  exact ⟨o ++ [(⟨key, val, n + 1⟩ : Pr)], true, ao2, c2, by rw [List.length_append]; rfl, rfl, by show _ = _; simp, by rw [List.length_append]; simp; omega, HO4.out, HX4.out, HK4.out⟩
                | false =>
                  go_wp2
                  go_meet
                  exact ⟨o, d, ao', c', rfl, rfl, by show _ = _; simp, by omega, HO.out, HX.out, HK.out⟩
              case rest =>
                obtain ⟨o2, d2, ao2', c2', rfl, rfl, HF4, hol2, HO2, HX2, HK2⟩ := hcut
                rename World => wq
                clear HO HX HK x0 x1 x2 hc0 hc1 hc2
                have HX := HX2
                have HK := HK2
                clear HX2 HK2
                obtain ⟨_, ha', _, hc0, hc1, hc2, _, _⟩ := HR.out.nil HK.out k hlt
                cases ha'
                rw [← HY.out] at hc0 hc1 hc2
                by_cases hyk : y.k = key
                · have HF5 : Hid ((o2, d2) = foldP key ⟨key, val, n + 1⟩ (ps.take (k + 1))) := by show _ = _; rw [HF2.out, HF3.out, if_pos hyk, HF4.out]
                  rw [hyk] at hc0
                  go_wp2
                  go_roundg (ps.length - (k + 1))
                  case measure => omega
                  case rel => exact ⟨k + 1, o2, d2, ao2', c2', by omega, rfl, rfl, rfl, by go_num, HF5.out, by omega, HO2.out, HX.out, HK.out⟩
                · have hyb : (y.k == key) = false := beq_eq_false_iff_ne.2 hyk
                  have HF5 : Hid ((o2 ++ [y], d2) = foldP key ⟨key, val, n + 1⟩ (ps.take (k + 1))) := by show _ = _; rw [HF2.out, HF3.out, if_neg hyk, ← HF4.out]
                  have HOO : Hid (wq.ownsRow (xb + 1) 63 3 (.slice ao2' o2.length c2') o2.length (kvCells o2)) := HO2.out
                  have HLL : Hid (o2.length + 1 ≤ maxLen ∧ (o2.length + 1) * 40 ≤ 140737488355328) := by constructor <;> (try unfold maxLen) <;> omega
                  clear HF2 HF3 HF4 HF HY
                  obtain ⟨yk, yv, yn⟩ := y
                  go_wp2_with (at_builtin; go_must (refine wpList_append_src _ rfl _ _ 55 55 rfl (xb + 1) 63 i0 (.agg #[.string ⟨#[]⟩, .string ⟨#[]⟩, .int .i64 0]) 3 40 Tryz.underlying55 hi hz0 hz1 hz2 rfl _ _ _ rfl (World.ownsRow.alloc HOO.out _) (.slice (some ⟨wq.heap.size, 0, none⟩) 1 1) 1 [.string (bs yk), .string (bs yv), .int .i64 yn] rfl (src_kv ⟨yk, yv, yn⟩) HLL.out.1 HLL.out.2 (le_alloc (lt_of_block HX.out) _) ?_); intro ao2 c2 w4 ho' hg'; have HO4 : Hid (OwnP (xb + 1) w4 ao2 c2 (o2 ++ [⟨yk, yv, yn⟩])) := OwnP.push (x := ⟨yk, yv, yn⟩) ho'; have HX4 : Hid (w4.heap[xb]? = some (.cells #[.string (bs key), .string (bs val), .int .i64 (n + 1)] 63 (0, 0))) := grown_blk hg' (blk_past HX.out _) (fun e => by have := own_row HOO.out _ e; omega); have HK4 : Hid (Kept Nil W w4) := (HK.out.alloc _).grown hg' (fun r hr => by have := own_row HOO.out r hr; have := HXB.out; omega); clear ho' hg')
                  go_roundg (ps.length - (k + 1))
                  case measure => omega
                  case rel => exact ⟨k + 1, o2 ++ [(⟨yk, yv, yn⟩ : Pr)], d2, ao2, c2, by omega, rfl, by rw [List.length_append]; rfl, rfl, by go_num, HF5.out, by rw [List.length_append]; simp; omega, HO4.out, HX4.out, HK4.out⟩
          · obtain rfl : k = ps.length := by omega
            have HFe : Hid ((o, d) = foldP key ⟨key, val, n + 1⟩ ps) := by show _ = _; rw [HF.out, List.take_length]
            have HOP : Hid (outP key ⟨key, val, n + 1⟩ ps = if d = true then o else o ++ [(⟨key, val, n + 1⟩ : Pr)]) := by show _ = _; unfold outP; rw [← HFe.out]
            clear HFe HF
            rename World => wr
            go_upto_if 90 with fail
            go_cut [10] (fun s10 wc => ∃ ao2 c2, s10 = .slice ao2 (outP key ⟨key, val, n + 1⟩ ps).length c2 ∧ Hid (OwnP (xb + 1) wc ao2 c2 (outP key ⟨key, val, n + 1⟩ ps)) ∧ Hid (wc.heap[xb]? = some (.cells #[.string (bs key), .string (bs val), .int .i64 (n + 1)] 63 (0, 0))) ∧ Hid (Kept Nil W wc))
            case first =>
              cases d with
              | true =>
                have HE : Hid (o = outP key ⟨key, val, n + 1⟩ ps) := by show _ = _; rw [HOP.out]; simp
                go_wp2
                go_meet
                exact ⟨ao', c', by rw [HE.out], by rw [← HE.out]; exact HO.out, HX.out, HK.out⟩
              | false =>
                have HE : Hid (o ++ [(⟨key, val, n + 1⟩ : Pr)] = outP key ⟨key, val, n + 1⟩ ps) := by show _ = _; rw [HOP.out]; simp
                have HOO : Hid (wr.ownsRow (xb + 1) 63 3 (.slice ao' o.length c') o.length (kvCells o)) := HO.out
                have HLL : Hid (o.length + 1 ≤ maxLen ∧ (o.length + 1) * 40 ≤ 140737488355328) := by constructor <;> (try unfold maxLen) <;> omega
                go_wp2_with (at_builtin; go_must (refine wpList_append_src _ rfl _ _ 55 55 rfl (xb + 1) 63 i0 (.agg #[.string ⟨#[]⟩, .string ⟨#[]⟩, .int .i64 0]) 3 40 Tryz.underlying55 hi hz0 hz1 hz2 rfl _ _ _ rfl (World.ownsRow.alloc HOO.out _) (.slice (some ⟨wr.heap.size, 0, none⟩) 1 1) 1 [.string (bs key), .string (bs val), .int .i64 (n + 1)] rfl (src_kv ⟨key, val, n + 1⟩) HLL.out.1 HLL.out.2 (le_alloc (lt_of_block HX.out) _) ?_); intro ao2 c2 w4 ho' hg'; have HO4 : Hid (OwnP (xb + 1) w4 ao2 c2 (o ++ [⟨key, val, n + 1⟩])) := OwnP.push (x := ⟨key, val, n + 1⟩) ho'; have HX4 : Hid (w4.heap[xb]? = some (.cells #[.string (bs key), .string (bs val), .int .i64 (n + 1)] 63 (0, 0))) := grown_blk hg' (blk_past HX.out _) (fun e => by have := own_row HOO.out _ e; omega); have HK4 : Hid (Kept Nil W w4) := (HK.out.alloc _).grown hg' (fun r hr => by have := own_row HOO.out r hr; have := HXB.out; omega); clear ho' hg')
                go_meet
                exact ⟨ao2, c2, by rw [← HE.out, List.length_append]; rfl, by rw [← HE.out]; exact HO4.out, HX4.out, HK4.out⟩
            case rest =>
              obtain ⟨ao9, c9, rfl, HO9, HX9, HK9⟩ := hcut
              rename World => wz
              clear x0 x1 x2 HX HK HO HOP
              have HNz : Hid (wz.heap[pr]? = some (.cells #[.int .i64 0, .string ⟨#[]⟩, .int .i64 0, .slice none 0 0] 50 (0, 0))) := HK9.out.block _ _ HN9.out (fun x => x.elim)
              have x2 : wz.cell? ⟨xb, 2, none⟩ = some (.int .i64 (n + 1)) := blk_at HX9.out 2 rfl
              have r0 : wz.cell? ⟨pr, 0, none⟩ = some (.int .i64 0) := blk_at HNz.out 0 rfl
              have r1 : wz.cell? ⟨pr, 1, none⟩ = some (.string ⟨#[]⟩) := blk_at HNz.out 1 rfl
              have r2 : wz.cell? ⟨pr, 2, none⟩ = some (.int .i64 0) := blk_at HNz.out 2 rfl
              have r3 : wz.cell? ⟨pr, 3, none⟩ = some (.slice none 0 0) := blk_at HNz.out 3 rfl
              have z0 : wz.frozen? ⟨pr, 0, none⟩ = false := blk_free HNz.out 0
              have z1 : wz.frozen? ⟨pr, 1, none⟩ = false := blk_free HNz.out 1
              have z2 : wz.frozen? ⟨pr, 2, none⟩ = false := blk_free HNz.out 2
              have z3 : wz.frozen? ⟨pr, 3, none⟩ = false := blk_free HNz.out 3
              have hpx : Hid (pr < xb + 1) := by have := lt_of_block HN9.out; have := HXB.out; show _ < _; omega
              obtain ⟨PS, HPS⟩ : ∃ PS, Hid (PS = outP key ⟨key, val, n + 1⟩ ps) := ⟨_, rfl⟩
              rw [← HPS.out] at HO9
              obtain ⟨V, hV⟩ : ∃ V, V = ((((wz.setCell ⟨pr, 0, none⟩ (.int .i64 1)).setCell ⟨pr, 1, none⟩ (.string ⟨#[]⟩)).setCell ⟨pr, 2, none⟩ (.int .i64 (n + 1))).setCell ⟨pr, 3, none⟩ (.slice none 0 0)).drew := ⟨_, rfl⟩
              have HV : Hid (V.heap[pr]? = some (.cells #[.int .i64 1, .string ⟨#[]⟩, .int .i64 (n + 1), .slice none 0 0] 50 (0, 0)) ∧ Kept Nil w V ∧ OwnP (xb + 1) V ao9 c9 PS) := by
                rw [hV]
                refine ⟨blk_set (blk_set (blk_set (blk_set HNz.out 0 _) 1 _) 2 _) 3 _, (((((KW.out.trans HK9.out).setNew (p := ⟨pr, 0, none⟩) HPW.out _).setNew (p := ⟨pr, 1, none⟩) HPW.out _).setNew (p := ⟨pr, 2, none⟩) HPW.out _).setNew (p := ⟨pr, 3, none⟩) HPW.out _).drew, ?_⟩
                refine OwnP.kept ?_ (Kept.refl _ _).drew
                exact ownsRow_setCell_below (ownsRow_setCell_below (ownsRow_setCell_below (ownsRow_setCell_below HO9.out hpx.out _) hpx.out _) hpx.out _) hpx.out _
              go_wp2_with fail
              go_region
              all_goals
                go_wp2
                rw [← hV]
                clear hV r0 r1 r2 r3
                have j0 := blk_at HV.out.1 0 rfl
                have j1 := blk_at HV.out.1 1 rfl
                have j2 := blk_at HV.out.1 2 rfl
                have j3 := blk_at HV.out.1 3 rfl
                exact bodyPost_ret (v := .tuple #[.slice ao9 (outP key ⟨key, val, n + 1⟩ ps).length c9, rrV ⟨1, [], n + 1, []⟩ none 0]) (by simp [results, Tryz.results133, go_sem, j0, j1, j2, j3, rrV, bs]) rfl ⟨ao9, c9, none, 0, rfl, .inr (by rw [← HPS.out]; exact own_mono HV.out.2.2 (by have : w.heap.size ≤ pr := HPW.out; have := hpx.out; omega)), OwnK.nil _ _, HV.out.2.1⟩
theorem refPut_any (B c : Nat) (ao : Option Addr) (ps : List Pr) (key val : List UInt8) (w : World) (h : PairRow B w ao ps) (hok : pairsOk ps = true) :
    Calls Tryz.prog 133 #[.slice ao ps.length c, .string (bs key), .string (bs val)] w (RefApPost w ao c ps (putP key val (spotN key ps) (lowP key ps) ps) (putRr val (spotN key ps) ps.length)) := by
  cases hrm : roomB ps.length (spotN key ps) val with
  | false => exact refPutN_any B c ao ps key val w h hok hrm
  | true => exact refPutY_any B c ao ps key val w h hok hrm

end Go.Proofs.YtflnjlbafchnaaaGreatDoor
