/-
  Sessions: where a client stands; the one seen least lately; room for one more.
-/
import Derived.Test.YtblmmbghnkplkaaWSe5
namespace Go.Proofs.Ytblmmbghnkplkaa
open Go.RowKit

set_option maxRecDepth 100000 in
set_option maxHeartbeats 1000000 in
theorem findL_any (w0 w : World) (b cp cs : Nat) (ps : List Pr) (es : List Se) (tm cl : Int) (ap sa : Option Addr) (h : Led w0 w b ps es tm ap sa cp cs) (hs : SrtE es) (hl : es.length ≤ 8) :
    Calls Try.prog 161 #[.pointer (some ⟨b, 0, none⟩), .int .i64 cl] w fun e w' => e = .returned (.tuple #[.int .i64 (lowE cl es), .bool (isE cl es)]) ∧ Kept Nil w w' := by
  have BS := bsE_any w0.heap.size cs sa es cl w h.oe hs (by omega)
  have q1 : w.cell? ⟨b, 1, none⟩ = some (.slice sa es.length cs) := blk_at h.blk 1 rfl
  clear h
  go_enter Try.func161, Try.ntmps161
  go_wp2_with fail
  go_fit BS
  rintro _ w1 ⟨rfl, k1⟩
  go_wp2
  go_ret2
  exact ⟨rfl, k1⟩

def minFrom (m : Se) : List Se → Se
  | [] => m
  | e :: t => minFrom (if e.s.sn < m.s.sn then e else m) t
def oldE : List Se → Int
  | [] => 0
  | e :: t => (minFrom e t).s.cl
set_option maxRecDepth 100000 in
set_option maxHeartbeats 4000000 in
theorem minE_any (B c g : Nat) (es : List Se) (w : World) (h : OwnE B w (some ⟨g, 0, none⟩) c es) (h0 : 0 < es.length) (hl : es.length ≤ 8) :
    Calls Try.prog 183 #[.slice (some ⟨g, 0, none⟩) es.length c, .func (.func 184) #[] #[]] w fun e w' => e = .returned (seV (minFrom es[0] (es.drop 1))) ∧ Kept Nil w w' := by
  obtain ⟨M, HM⟩ : ∃ M, Hid (M = minFrom es[0] (es.drop 1)) := ⟨_, (rfl : minFrom es[0] (es.drop 1) = minFrom es[0] (es.drop 1))⟩
  rw [← HM.out]
  obtain ⟨x, HX⟩ : ∃ x : Se, Hid (x = es[0]) := ⟨_, (rfl : es[0] = es[0])⟩
  obtain ⟨W, hW⟩ : ∃ W, W = w.alloc (.cells #[.int .i64 0, .int .i64 0, .int .i64 0, .string ⟨#[]⟩, .int .i64 0, .slice none 0 0, .int .i64 0] 121) := ⟨_, rfl⟩
  obtain ⟨D, HDe⟩ : ∃ D, Hid (D = w.heap.size) := ⟨_, rfl⟩
  have HD : Hid (W.heap[D]? = some (.cells #[.int .i64 0, .int .i64 0, .int .i64 0, .string ⟨#[]⟩, .int .i64 0, .slice none 0 0, .int .i64 0] 121 (0, 0))) := by rw [hW, HDe.out]; exact blk_new _ _
  have KW : Hid (Kept Nil w W) := by rw [hW]; exact (Kept.refl _ _).alloc _
  have HO : Hid (OwnE B W (some ⟨g, 0, none⟩) c es) := h.kept KW.out
  obtain ⟨c0, c1, c2, c3, c4, c5, c6⟩ := HO.out.at7 h0
  rw [← HX.out] at c0 c1 c2 c3 c4 c5 c6
  simp only [Nat.zero_mul, Nat.zero_add] at c0 c1 c2 c3 c4 c5 c6
  have h1i : ¬ (es.length : Int) < 1 := by omega
  have h1b : decide ((es.length : Int) < 1) = false := decide_eq_false h1i
  have h0i : (0 : Int) < es.length := by omega
  have HGW : Hid (g < w.heap.size) := by
    obtain ⟨g', _, e, _, hb, _⟩ := h.block (by simp)
    cases e
    exact lt_of_block hb
  have OC := fun (a b : Se) X => oldC_any a b X
  unfold seV at OC
  clear h
  go_enter Try.func183, Try.ntmps183
  go_upto_region 1 with fail
  rw [← hW, ← HDe.out]
  clear hW
  obtain ⟨W2, hW2⟩ : ∃ W2, W2 = W.alloc (.cells #[.int .i64 x.s.cl, .int .i64 x.s.ls, .int .i64 x.s.kd, .string (bs x.s.val), .int .i64 x.s.ver, .slice x.ao x.s.ks.length x.c, .int .i64 x.s.sn] 121) := ⟨_, rfl⟩
  obtain ⟨E, HEe⟩ : ∃ E, Hid (E = W.heap.size) := ⟨_, rfl⟩
  have HE2 : Hid (W2.heap[E]? = some (.cells #[.int .i64 x.s.cl, .int .i64 x.s.ls, .int .i64 x.s.kd, .string (bs x.s.val), .int .i64 x.s.ver, .slice x.ao x.s.ks.length x.c, .int .i64 x.s.sn] 121 (0, 0))) := by rw [hW2, HEe.out]; exact blk_new _ _
  have HD2 : Hid (W2.heap[D]? = some (.cells #[.int .i64 0, .int .i64 0, .int .i64 0, .string ⟨#[]⟩, .int .i64 0, .slice none 0 0, .int .i64 0] 121 (0, 0))) := by rw [hW2]; exact blk_past HD.out _
  have KW2 : Hid (Kept Nil w W2) := by rw [hW2]; exact KW.out.alloc _
  have HO2 : Hid (OwnE B W2 (some ⟨g, 0, none⟩) c es) := by rw [hW2]; exact HO.out.kept ((Kept.refl _ _).alloc _)
  have HED : Hid (E ≠ D ∧ w.heap.size ≤ E ∧ w.heap.size ≤ D) := by
    have h1 := lt_of_block HD.out
    have h2 := HDe.out
    have h3 := HEe.out
    exact ⟨by omega, by omega, by omega⟩
  have HGE : Hid (g ≠ E ∧ g ≠ D) := by
    have h1 := HED.out
    have h2 := HGW.out
    exact ⟨by omega, by omega⟩
  go_upto_region 5 with fail
  rw [← hW2, ← HEe.out]
  clear hW2 HD KW HO c0 c1 c2 c3 c4 c5 c6
  go_loopg [6] (es.length - 1) (fun n j wr => ∃ k : Nat, ∃ m : Se, 1 ≤ k ∧ k ≤ es.length ∧ n = es.length - k ∧ j = .int .i64 k ∧ Hid (minFrom m (es.drop k) = M) ∧ Hid (wr.heap[E]? = some (.cells #[.int .i64 m.s.cl, .int .i64 m.s.ls, .int .i64 m.s.kd, .string (bs m.s.val), .int .i64 m.s.ver, .slice m.ao m.s.ks.length m.c, .int .i64 m.s.sn] 121 (0, 0))) ∧ Hid (wr.heap[D]? = some (.cells #[.int .i64 0, .int .i64 0, .int .i64 0, .string ⟨#[]⟩, .int .i64 0, .slice none 0 0, .int .i64 0] 121 (0, 0))) ∧ Hid (OwnE B wr (some ⟨g, 0, none⟩) c es) ∧ Hid (Kept Nil w wr))
  case atStart => exact ⟨1, x, by omega, by omega, rfl, rfl, (by show _ = _; rw [HX.out, HM.out]), HE2.out, HD2.out, HO2.out, KW2.out⟩
  case round =>
    obtain ⟨k, m, hk1, hk, rfl, rfl, HMM, HEr, HDr, HOr, HKr⟩ := hrel
    rename World => wr
    clear HE2 HD2 KW2 HO2
    have x0 : wr.cell? ⟨E, 0, none⟩ = some (.int .i64 m.s.cl) := blk_at HEr.out 0 rfl
    have x1 : wr.cell? ⟨E, 1, none⟩ = some (.int .i64 m.s.ls) := blk_at HEr.out 1 rfl
    have x2 : wr.cell? ⟨E, 2, none⟩ = some (.int .i64 m.s.kd) := blk_at HEr.out 2 rfl
    have x3 : wr.cell? ⟨E, 3, none⟩ = some (.string (bs m.s.val)) := blk_at HEr.out 3 rfl
    have x4 : wr.cell? ⟨E, 4, none⟩ = some (.int .i64 m.s.ver) := blk_at HEr.out 4 rfl
    have x5 : wr.cell? ⟨E, 5, none⟩ = some (.slice m.ao m.s.ks.length m.c) := blk_at HEr.out 5 rfl
    have x6 : wr.cell? ⟨E, 6, none⟩ = some (.int .i64 m.s.sn) := blk_at HEr.out 6 rfl
    by_cases hlt : k < es.length
    · have hki : (k : Int) < es.length := by omega
      obtain ⟨y, HY⟩ : ∃ y : Se, Hid (y = es[k]) := ⟨_, (rfl : es[k] = es[k])⟩
      obtain ⟨c0, c1, c2, c3, c4, c5, c6⟩ := HOr.out.at7 hlt
      rw [← HY.out] at c0 c1 c2 c3 c4 c5 c6
      have HMN : Hid (minFrom (if y.s.sn < m.s.sn then y else m) (es.drop (k + 1)) = M) := by
        have h := HMM.out
        rw [List.drop_eq_getElem_cons hlt, ← HY.out] at h
        exact h
      have HCL : Hid (cmpI y.s.sn m.s.sn < 0 ↔ y.s.sn < m.s.sn) := cmpI_lt _ _
      have OY := fun X => OC y m X
      generalize cmpI y.s.sn m.s.sn = z at *
      by_cases hz : z < 0
      · have HMN2 : Hid (minFrom y (es.drop (k + 1)) = M) := by
          have h := HMN.out
          rw [if_pos (HCL.out.1 hz)] at h
          exact h
        go_upto_region 7 with fail
        go_region_with (go_at_call 184; go_fit (OY _); rintro e w1 ⟨rfl, k1⟩; have K1 : Hid (Kept Nil wr w1) := (Kept.refl _ _).drew.trans k1; clear k1)
        all_goals
          have HE1 : Hid (w1.heap[E]? = some (.cells #[.int .i64 m.s.cl, .int .i64 m.s.ls, .int .i64 m.s.kd, .string (bs m.s.val), .int .i64 m.s.ver, .slice m.ao m.s.ks.length m.c, .int .i64 m.s.sn] 121 (0, 0))) := K1.out.block _ _ HEr.out (fun x => x.elim)
          have HD1 : Hid (w1.heap[D]? = some (.cells #[.int .i64 0, .int .i64 0, .int .i64 0, .string ⟨#[]⟩, .int .i64 0, .slice none 0 0, .int .i64 0] 121 (0, 0))) := K1.out.block _ _ HDr.out (fun x => x.elim)
          have HO1 : Hid (OwnE B w1 (some ⟨g, 0, none⟩) c es) := HOr.out.kept K1.out
          have HK1 : Hid (Kept Nil w w1) := HKr.out.trans K1.out
          clear x0 x1 x2 x3 x4 x5 x6 c0 c1 c2 c3 c4 c5 c6 OY
          obtain ⟨c0, c1, c2, c3, c4, c5, c6⟩ := HO1.out.at7 hlt
          rw [← HY.out] at c0 c1 c2 c3 c4 c5 c6
          have x0 : w1.cell? ⟨E, 0, none⟩ = some (.int .i64 m.s.cl) := blk_at HE1.out 0 rfl
          have x1 : w1.cell? ⟨E, 1, none⟩ = some (.int .i64 m.s.ls) := blk_at HE1.out 1 rfl
          have x2 : w1.cell? ⟨E, 2, none⟩ = some (.int .i64 m.s.kd) := blk_at HE1.out 2 rfl
          have x3 : w1.cell? ⟨E, 3, none⟩ = some (.string (bs m.s.val)) := blk_at HE1.out 3 rfl
          have x4 : w1.cell? ⟨E, 4, none⟩ = some (.int .i64 m.s.ver) := blk_at HE1.out 4 rfl
          have x5 : w1.cell? ⟨E, 5, none⟩ = some (.slice m.ao m.s.ks.length m.c) := blk_at HE1.out 5 rfl
          have x6 : w1.cell? ⟨E, 6, none⟩ = some (.int .i64 m.s.sn) := blk_at HE1.out 6 rfl
          have z0 : w1.frozen? ⟨E, 0, none⟩ = false := blk_free HE1.out 0
          have z1 : w1.frozen? ⟨E, 1, none⟩ = false := blk_free HE1.out 1
          have z2 : w1.frozen? ⟨E, 2, none⟩ = false := blk_free HE1.out 2
          have z3 : w1.frozen? ⟨E, 3, none⟩ = false := blk_free HE1.out 3
          have z4 : w1.frozen? ⟨E, 4, none⟩ = false := blk_free HE1.out 4
          have z5 : w1.frozen? ⟨E, 5, none⟩ = false := blk_free HE1.out 5
          have z6 : w1.frozen? ⟨E, 6, none⟩ = false := blk_free HE1.out 6
          obtain ⟨V, hV⟩ : ∃ V, V = (((((((w1.setCell ⟨E, 0, none⟩ (.int .i64 y.s.cl)).setCell ⟨E, 1, none⟩ (.int .i64 y.s.ls)).setCell ⟨E, 2, none⟩ (.int .i64 y.s.kd)).setCell ⟨E, 3, none⟩ (.string (bs y.s.val))).setCell ⟨E, 4, none⟩ (.int .i64 y.s.ver)).setCell ⟨E, 5, none⟩ (.slice y.ao y.s.ks.length y.c)).setCell ⟨E, 6, none⟩ (.int .i64 y.s.sn)) := ⟨_, rfl⟩
          have HEV : Hid (V.heap[E]? = some (.cells #[.int .i64 y.s.cl, .int .i64 y.s.ls, .int .i64 y.s.kd, .string (bs y.s.val), .int .i64 y.s.ver, .slice y.ao y.s.ks.length y.c, .int .i64 y.s.sn] 121 (0, 0))) := by rw [hV]; exact (blk_set (blk_set (blk_set (blk_set (blk_set (blk_set (blk_set HE1.out 0 _) 1 _) 2 _) 3 _) 4 _) 5 _) 6 _)
          have HDV : Hid (V.heap[D]? = some (.cells #[.int .i64 0, .int .i64 0, .int .i64 0, .string ⟨#[]⟩, .int .i64 0, .slice none 0 0, .int .i64 0] 121 (0, 0))) := by rw [hV]; exact (blk_other (a := ⟨E, 6, none⟩) (blk_other (a := ⟨E, 5, none⟩) (blk_other (a := ⟨E, 4, none⟩) (blk_other (a := ⟨E, 3, none⟩) (blk_other (a := ⟨E, 2, none⟩) (blk_other (a := ⟨E, 1, none⟩) (blk_other (a := ⟨E, 0, none⟩) HD1.out (fun e => HED.out.1 e.symm) _) (fun e => HED.out.1 e.symm) _) (fun e => HED.out.1 e.symm) _) (fun e => HED.out.1 e.symm) _) (fun e => HED.out.1 e.symm) _) (fun e => HED.out.1 e.symm) _) (fun e => HED.out.1 e.symm) _)
          have HOV : Hid (OwnE B V (some ⟨g, 0, none⟩) c es) := by rw [hV]; exact (ownsRow_setCell_other (a := ⟨E, 6, none⟩) (ownsRow_setCell_other (a := ⟨E, 5, none⟩) (ownsRow_setCell_other (a := ⟨E, 4, none⟩) (ownsRow_setCell_other (a := ⟨E, 3, none⟩) (ownsRow_setCell_other (a := ⟨E, 2, none⟩) (ownsRow_setCell_other (a := ⟨E, 1, none⟩) (ownsRow_setCell_other (a := ⟨E, 0, none⟩) HO1.out (fun e => HGE.out.1 (Option.some.inj e)) _) (fun e => HGE.out.1 (Option.some.inj e)) _) (fun e => HGE.out.1 (Option.some.inj e)) _) (fun e => HGE.out.1 (Option.some.inj e)) _) (fun e => HGE.out.1 (Option.some.inj e)) _) (fun e => HGE.out.1 (Option.some.inj e)) _) (fun e => HGE.out.1 (Option.some.inj e)) _)
          have HKV : Hid (Kept Nil w V) := by rw [hV]; exact (((((((HK1.out.setNew (p := ⟨E, 0, none⟩) HED.out.2.1 _).setNew (p := ⟨E, 1, none⟩) HED.out.2.1 _).setNew (p := ⟨E, 2, none⟩) HED.out.2.1 _).setNew (p := ⟨E, 3, none⟩) HED.out.2.1 _).setNew (p := ⟨E, 4, none⟩) HED.out.2.1 _).setNew (p := ⟨E, 5, none⟩) HED.out.2.1 _).setNew (p := ⟨E, 6, none⟩) HED.out.2.1 _)
          go_wp2
          rw [← hV]
          go_roundg (es.length - (k + 1))
          case measure => omega
          case rel => exact ⟨k + 1, y, by omega, by omega, rfl, by go_num, HMN2.out, HEV.out, HDV.out, HOV.out, HKV.out⟩
      · have HMN2 : Hid (minFrom m (es.drop (k + 1)) = M) := by
          have h := HMN.out
          rw [if_neg (fun e => hz (HCL.out.2 e))] at h
          exact h
        go_upto_region 7 with fail
        go_region_with (go_at_call 184; go_fit (OY _); rintro e w1 ⟨rfl, k1⟩; have K1 : Hid (Kept Nil wr w1) := (Kept.refl _ _).drew.trans k1; clear k1)
        all_goals
          have HE1 : Hid (w1.heap[E]? = some (.cells #[.int .i64 m.s.cl, .int .i64 m.s.ls, .int .i64 m.s.kd, .string (bs m.s.val), .int .i64 m.s.ver, .slice m.ao m.s.ks.length m.c, .int .i64 m.s.sn] 121 (0, 0))) := K1.out.block _ _ HEr.out (fun x => x.elim)
          have HD1 : Hid (w1.heap[D]? = some (.cells #[.int .i64 0, .int .i64 0, .int .i64 0, .string ⟨#[]⟩, .int .i64 0, .slice none 0 0, .int .i64 0] 121 (0, 0))) := K1.out.block _ _ HDr.out (fun x => x.elim)
          have HO1 : Hid (OwnE B w1 (some ⟨g, 0, none⟩) c es) := HOr.out.kept K1.out
          have HK1 : Hid (Kept Nil w w1) := HKr.out.trans K1.out
          clear x0 x1 x2 x3 x4 x5 x6 c0 c1 c2 c3 c4 c5 c6 OY
          go_wp2
          go_roundg (es.length - (k + 1))
          case measure => omega
          case rel => exact ⟨k + 1, m, by omega, by omega, rfl, by go_num, HMN2.out, HE1.out, HD1.out, HO1.out, HK1.out⟩
    · obtain rfl : k = es.length := by omega
      have hirr : ¬ (es.length : Int) < es.length := by omega
      have HmM : Hid (m = M) := by
        have h := HMM.out
        rw [List.drop_length] at h
        exact h
      have z0 : wr.frozen? ⟨D, 0, none⟩ = false := blk_free HDr.out 0
      have z1 : wr.frozen? ⟨D, 1, none⟩ = false := blk_free HDr.out 1
      have z2 : wr.frozen? ⟨D, 2, none⟩ = false := blk_free HDr.out 2
      have z3 : wr.frozen? ⟨D, 3, none⟩ = false := blk_free HDr.out 3
      have z4 : wr.frozen? ⟨D, 4, none⟩ = false := blk_free HDr.out 4
      have z5 : wr.frozen? ⟨D, 5, none⟩ = false := blk_free HDr.out 5
      have z6 : wr.frozen? ⟨D, 6, none⟩ = false := blk_free HDr.out 6
      obtain ⟨V, hV⟩ : ∃ V, V = (((((((wr.setCell ⟨D, 0, none⟩ (.int .i64 m.s.cl)).setCell ⟨D, 1, none⟩ (.int .i64 m.s.ls)).setCell ⟨D, 2, none⟩ (.int .i64 m.s.kd)).setCell ⟨D, 3, none⟩ (.string (bs m.s.val))).setCell ⟨D, 4, none⟩ (.int .i64 m.s.ver)).setCell ⟨D, 5, none⟩ (.slice m.ao m.s.ks.length m.c)).setCell ⟨D, 6, none⟩ (.int .i64 m.s.sn)) := ⟨_, rfl⟩
      have HDV : Hid (V.heap[D]? = some (.cells #[.int .i64 m.s.cl, .int .i64 m.s.ls, .int .i64 m.s.kd, .string (bs m.s.val), .int .i64 m.s.ver, .slice m.ao m.s.ks.length m.c, .int .i64 m.s.sn] 121 (0, 0))) := by rw [hV]; exact (blk_set (blk_set (blk_set (blk_set (blk_set (blk_set (blk_set HDr.out 0 _) 1 _) 2 _) 3 _) 4 _) 5 _) 6 _)
      have HKV : Hid (Kept Nil w V) := by rw [hV]; exact (((((((HKr.out.setNew (p := ⟨D, 0, none⟩) HED.out.2.2 _).setNew (p := ⟨D, 1, none⟩) HED.out.2.2 _).setNew (p := ⟨D, 2, none⟩) HED.out.2.2 _).setNew (p := ⟨D, 3, none⟩) HED.out.2.2 _).setNew (p := ⟨D, 4, none⟩) HED.out.2.2 _).setNew (p := ⟨D, 5, none⟩) HED.out.2.2 _).setNew (p := ⟨D, 6, none⟩) HED.out.2.2 _)
      have r0 : wr.cell? ⟨D, 0, none⟩ = some (.int .i64 0) := blk_at HDr.out 0 rfl
      have r1 : wr.cell? ⟨D, 1, none⟩ = some (.int .i64 0) := blk_at HDr.out 1 rfl
      have r2 : wr.cell? ⟨D, 2, none⟩ = some (.int .i64 0) := blk_at HDr.out 2 rfl
      have r3 : wr.cell? ⟨D, 3, none⟩ = some (.string ⟨#[]⟩) := blk_at HDr.out 3 rfl
      have r4 : wr.cell? ⟨D, 4, none⟩ = some (.int .i64 0) := blk_at HDr.out 4 rfl
      have r5 : wr.cell? ⟨D, 5, none⟩ = some (.slice none 0 0) := blk_at HDr.out 5 rfl
      have r6 : wr.cell? ⟨D, 6, none⟩ = some (.int .i64 0) := blk_at HDr.out 6 rfl
      go_wp2
      rw [← hV]
      clear hV r0 r1 r2 r3 r4 r5 r6 z0 z1 z2 z3 z4 z5 z6
      have j0 : V.cell? ⟨D, 0, none⟩ = some (.int .i64 m.s.cl) := blk_at HDV.out 0 rfl
      have j1 : V.cell? ⟨D, 1, none⟩ = some (.int .i64 m.s.ls) := blk_at HDV.out 1 rfl
      have j2 : V.cell? ⟨D, 2, none⟩ = some (.int .i64 m.s.kd) := blk_at HDV.out 2 rfl
      have j3 : V.cell? ⟨D, 3, none⟩ = some (.string (bs m.s.val)) := blk_at HDV.out 3 rfl
      have j4 : V.cell? ⟨D, 4, none⟩ = some (.int .i64 m.s.ver) := blk_at HDV.out 4 rfl
      have j5 : V.cell? ⟨D, 5, none⟩ = some (.slice m.ao m.s.ks.length m.c) := blk_at HDV.out 5 rfl
      have j6 : V.cell? ⟨D, 6, none⟩ = some (.int .i64 m.s.sn) := blk_at HDV.out 6 rfl
      refine bodyPost_ret (v := seV m) (by simp [results, Try.results183, go_sem, seV, j0, j1, j2, j3, j4, j5, j6]) rfl ?_
      exact ⟨by rw [HmM.out], HKV.out⟩

end Go.Proofs.Ytblmmbghnkplkaa
