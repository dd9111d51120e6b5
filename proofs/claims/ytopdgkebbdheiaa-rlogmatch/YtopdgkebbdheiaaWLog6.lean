/-
  lookFor and countSame, and the document's first.
-/
import Derived.Test.YtopdgkebbdheiaaWOld
import Derived.Test.YtopdgkebbdheiaaWLog3
namespace Go.Proofs.Ytopdgkebbdheiaa
open Go.RowKit

set_option maxRecDepth 100000 in
set_option maxHeartbeats 2000000 in
theorem countSame_any (B c d : Nat) (ao bo : Option Addr) (hs ns : List En) (w : World) (h1 : EntRow B w ao hs) (h2 : EntRow B w bo ns) (hl1 : (hs.length : Int) ≤ 281474976710656) (hl2 : (ns.length : Int) ≤ 281474976710656) :
    Calls Try.prog 83 #[.slice ao hs.length c, .slice bo ns.length d] w fun e w' => e = .returned (.int .i64 (cnt hs ns : Nat)) ∧ Kept Nil w w' := by
  have HR : Hid (EntRow B w ao hs ∧ EntRow B w bo ns) := ⟨h1, h2⟩
  clear h1 h2
  go_enter Try.func83, Try.ntmps83
  go_wp2
  go_loopw [5] (fun i wr => ∃ k : Nat, k ≤ hs.length ∧ k ≤ ns.length ∧ i = .int .i64 k ∧ Hid (cnt hs ns = k + cnt (hs.drop k) (ns.drop k)) ∧ Hid (Kept Nil w wr)) (fun i _ => hs.length - (intOf i).toNat)
  case atStart => exact ⟨0, by omega, by omega, rfl, (by show _ = _; simp), Kept.refl _ _⟩
  case round =>
    obtain ⟨k, hk1, hk2, rfl, HC, HK⟩ := hrel
    by_cases hlt : k < hs.length ∧ k < ns.length
    · obtain ⟨a, rfl, t1⟩ := (HR.out.1.nil HK.out).tm hlt.1
      obtain ⟨b, rfl, t2⟩ := (HR.out.2.nil HK.out).tm hlt.2
      have hst := cnt_at hlt.1 hlt.2
      have hi1 : (k : Int) < hs.length := by omega
      have hi2 : (k : Int) < ns.length := by omega
      have hi3 : decide ((k : Int) < hs.length) = true := by simpa using hi1
      have hi4 : decide ((k : Int) < ns.length) = true := by simpa using hi2
      generalize hs[k].tm = x at *
      generalize ns[k].tm = y at *
      have HST : Hid (cnt (hs.drop k) (ns.drop k) = if x = y then cnt (hs.drop (k + 1)) (ns.drop (k + 1)) + 1 else 0) := hst
      clear hst
      by_cases hxy : x = y
      · have hxy' : (x == y) = true := by simpa using hxy
        have HF : Hid (cnt hs ns = (k + 1) + cnt (hs.drop (k + 1)) (ns.drop (k + 1))) := by show _ = _; rw [HC.out, HST.out, if_pos hxy]; omega
        clear hxy
        by_cases hle : ns.length < hs.length
        all_goals
          go_wp2
          go_quiet (fail)
          go_wp2
          go_roundw
          case rel => exact ⟨k + 1, by omega, by omega, by go_num, HF.out, HK.out.drewN _⟩
          case measure => simp [intOf]; omega
      · have hxy' : (x == y) = false := by simpa using hxy
        have HF : Hid (cnt hs ns = k) := by show _ = _; rw [HC.out, HST.out, if_neg hxy]; rfl
        clear hxy
        by_cases hle : ns.length < hs.length
        all_goals
          go_wp2
          go_quiet (fail)
          go_wp2
          go_ret
          exact ⟨ret_int (by rw [HF.out]), HK.out.drewN _⟩
    · have HF : Hid (cnt hs ns = k) := by show _ = _; rw [HC.out, cnt_end hlt]; rfl
      by_cases hle : ns.length < hs.length
      · have hi5 : ¬ (k : Int) < ns.length := by omega
        have hi6 : ¬ k < ns.length := by omega
        have hi2 : decide (k < ns.length) = false := by simpa using hi6
        clear hlt
        go_wp2
        go_quiet (fail)
        go_wp2
        go_ret
        exact ⟨ret_int (by rw [HF.out]), HK.out.drewN _⟩
      · have hi5 : ¬ (k : Int) < hs.length := by omega
        have hi6 : ¬ k < hs.length := by omega
        have hi2 : decide (k < hs.length) = false := by simpa using hi6
        clear hlt
        go_wp2
        go_quiet (fail)
        go_wp2
        go_ret
        exact ⟨ret_int (by rw [HF.out]), HK.out.drewN _⟩

theorem lookB {w w1 : World} {base bt : Int} {ao : Option Addr} {n c : Nat} (h : w1.heap[w.heap.size]? = some (.cells #[.int .i64 base, .int .i64 bt, .slice ao n c] 53 (0, 0))) : w1.cell? ⟨w.heap.size, 0, none⟩ = some (.int .i64 base) ∧ w1.cell? ⟨w.heap.size, 1, none⟩ = some (.int .i64 bt) ∧ w1.cell? ⟨w.heap.size, 2, none⟩ = some (.slice ao n c) := ⟨blk_at h 0 rfl, blk_at h 1 rfl, blk_at h 2 rfl⟩

set_option maxRecDepth 100000 in
set_option maxHeartbeats 2000000 in
theorem lookFor_any (B c : Nat) (base bt prev : Int) (ao : Option Addr) (es : List En) (w : World) (h : EntRow B w ao es) (hb : 0 ≤ base ∧ base ≤ 1099511627775) (hl : (es.length : Int) ≤ 281474976710656) (hp : base ≤ prev ∧ prev ≤ 4611686018427387904) :
    Calls Try.prog 82 #[.agg #[.int .i64 base, .int .i64 bt, .slice ao es.length c], .int .i64 prev] w fun e w' => e = .returned (.int .i64 (look base bt es prev)) ∧ Kept Nil w w' := by
  have HR : Hid (EntRow B w ao es) := h
  have L := fun w' (hk : Kept Nil w w') => last_any B c base bt ao es w' (HR.out.nil hk) hb hl
  have HBN : Hid (_) := blk_new w (.cells #[.int .i64 base, .int .i64 bt, .slice ao es.length c] 53)
  obtain ⟨hb0, hb1⟩ := hb
  obtain ⟨hp0, hp1⟩ := hp
  clear h
  by_cases h2 : base + es.length < prev
  · have e1 : look base bt es prev = base + es.length + 1 := if_pos h2
    rw [e1]
    clear e1
    go_enter Try.func82, Try.ntmps82
    go_wp2_with fail
    refine (L _ ((Kept.refl _ _).alloc _)).mono ?_
    rintro e w1 ⟨rfl, k1⟩
    have KK : Hid (Kept Nil w w1) := ((Kept.refl _ _).alloc _).trans k1
    clear k1
    go_wp2
    go_ret
    exact ⟨rfl, KK.out⟩
  · obtain ⟨p, rfl⟩ : ∃ p : Nat, prev = base + p := ⟨(prev - base).toNat, by omega⟩
    have e1 : look base bt es (base + p) = base + (down bt es (tmAt bt es p) p : Nat) := by
      unfold look
      rw [if_neg h2, show (base + (p : Int) - base).toNat = p by omega]
    rw [e1]
    clear e1
    have hpl : p ≤ es.length := by omega
    obtain ⟨t, ht⟩ : ∃ t, tmAt bt es p = t := ⟨_, rfl⟩
    have T := fun (q : Int) w' (hk : Kept Nil w w') (h0 : 0 ≤ q) (hq : q ≤ es.length) => termBehind_any B c q base bt ao es w' (HR.out.nil hk) h0 hq hl
    have T1 := fun w' (hk : Kept Nil w w') => T (p : Int) w' hk (by omega) (by omega)
    rw [Int.toNat_natCast, ht] at T1
    rw [ht]
    have hsub : base + (p : Int) - base = (p : Int) := by omega
    clear ht
    go_enter Try.func82, Try.ntmps82
    go_wp2_with fail
    refine (L _ ((Kept.refl _ _).alloc _)).mono ?_
    rintro e w1 ⟨rfl, k1⟩
    have KK : Hid (Kept Nil w w1) := ((Kept.refl _ _).alloc _).trans k1
    have B1 : Hid (_) := k1.block _ _ HBN.out (fun x => x.elim)
    obtain ⟨c0, c1, c2⟩ := lookB B1.out
    clear k1
    go_wp2_with fail
    refine (T1 _ KK.out).mono ?_
    rintro e w2 ⟨rfl, k2⟩
    have K2 : Hid (Kept Nil w w2) := KK.out.trans k2
    have B2 : Hid (_) := k2.block _ _ B1.out (fun x => x.elim)
    clear k2 c0 c1 c2 KK B1 T1
    go_wp2
    go_loopw [7] (fun i wr => ∃ q : Nat, q ≤ p ∧ i = .int .i64 q ∧ Hid (down bt es t p = down bt es t q) ∧ Hid (Kept Nil w wr) ∧ Hid (wr.heap[w.heap.size]? = some (.cells #[.int .i64 base, .int .i64 bt, .slice ao es.length c] 53 (0, 0)))) (fun i _ => (intOf i).toNat)
    case atStart => exact ⟨p, by omega, rfl, rfl, K2.out, B2.out⟩
    case round =>
      obtain ⟨q, hq, rfl, HD, HK, HB⟩ := hrel
      clear K2 B2
      obtain ⟨c0, c1, c2⟩ := lookB HB.out
      by_cases h1 : 1 < q
      · have hq1 : (1 : Int) < (q : Int) := by omega
        have T2 := T ((q : Int) - 1) wr HK.out (by omega) (by omega)
        rw [show ((q : Int) - 1).toNat = q - 1 by omega] at T2
        by_cases he : tmAt bt es (q - 1) = t
        · have HF : Hid (down bt es t p = down bt es t (q - 1)) := HD.out.trans (down_more h1 he)
          rw [he] at T2
          clear he
          go_wp2_with fail
          refine T2.mono ?_
          rintro e w3 ⟨rfl, k3⟩
          have K3 : Hid (Kept Nil w w3) := HK.out.trans k3
          have B3 : Hid (_) := k3.block _ _ HB.out (fun x => x.elim)
          clear k3 c0 c1 c2
          go_wp2
          go_roundw
          case rel => exact ⟨q - 1, by omega, by rw [show ((q - 1 : Nat) : Int) = (q : Int) - 1 by omega], HF.out, K3.out, B3.out⟩
          case measure => simp [intOf]; omega
        · have HF : Hid (down bt es t p = q) := HD.out.trans (down_end (fun h => he h.2))
          generalize tmAt bt es (q - 1) = x at T2 he
          have he' : (x == t) = false := by simpa using he
          clear he
          go_wp2_with fail
          refine T2.mono ?_
          rintro e w3 ⟨rfl, k3⟩
          have K3 : Hid (Kept Nil w w3) := HK.out.trans k3
          obtain ⟨d0, d1, d2⟩ := lookB (k3.block _ _ HB.out (fun x => x.elim))
          clear k3 c0 c1 c2
          go_wp2
          go_ret
          exact ⟨ret_int (by rw [HF.out]), K3.out⟩
      · have HF : Hid (down bt es t p = q) := HD.out.trans (down_end (fun h => h1 h.1))
        have hq1 : ¬ (1 : Int) < (q : Int) := by omega
        go_wp2
        go_ret
        exact ⟨ret_int (by rw [HF.out]), HK.out⟩

end Go.Proofs.Ytopdgkebbdheiaa
