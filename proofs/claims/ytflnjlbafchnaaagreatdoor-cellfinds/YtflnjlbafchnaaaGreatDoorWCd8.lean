/-
  CellFinds: the walk.
-/
import Derived.Test.YtflnjlbafchnaaaGreatDoorWCd7
import Derived.Test.YtflnjlbafchnaaaGreatDoorWCr3
namespace Go.Proofs.YtflnjlbafchnaaaGreatDoor
open Go.RowKit Go.Lib

def tGone : List UInt8 := [103, 111, 110, 101, 32, 49, 32, 50]
def tHere : List UInt8 := [104, 101, 114, 101, 32, 49, 32, 51, 32, 61, 118]
def ms0 : List (List Pr) := [[⟨[99, 97], tGone, 2⟩], [⟨[99, 97], tHere, 1⟩]]
theorem say0a : sayM [97] ms0 1 = ⟨[], 0, 2, 1, 2⟩ := by
  rw [say_is [97] ms0 (g := 1) (i := 0) rfl (by decide)]
  have e : apR 2 (cKey [97]) [] 0 (ms0[0]'(by decide)) = ⟨1, tGone, 2, []⟩ := by rfl
  rw [e]
  have h : ceOf tGone = some ⟨[], 0, 2, 1, 2⟩ := by
    have o : (⟨[], 0, 2, 1, 2⟩ : Ce).Ok := ⟨by decide, by decide, fun _ => rfl, by decide, by decide, fun x => absurd x (by decide), fun _ => by decide, fun _ => rfl⟩
    have e2 : ceTxt ⟨[], 0, 2, 1, 2⟩ = tGone := by
      show cw 2 ++ 32 :: (decDigits 1 ++ (32 :: decDigits 2 ++ [])) = _
      rw [decDigits_small (by decide), decDigits_small (by decide)]
      rfl
    rw [← e2]
    exact ceOf_txt o
  show (if (1 : Int) = 1 then (ceOf tGone).getD (unsaid 1) else unsaid 1) = _
  rw [if_pos rfl, h]
  rfl
theorem say0b : sayM [97] ms0 2 = ⟨[118], 3, 0, 1, 0⟩ := by
  rw [say_is [97] ms0 (g := 2) (i := 1) rfl (by decide)]
  have e : apR 2 (cKey [97]) [] 0 (ms0[1]'(by decide)) = ⟨1, tHere, 1, []⟩ := by rfl
  rw [e]
  have h : ceOf tHere = some ⟨[118], 3, 0, 1, 0⟩ := by
    have o : (⟨[118], 3, 0, 1, 0⟩ : Ce).Ok := ⟨by decide, by decide, fun x => absurd x (by decide), by decide, by decide, fun _ => rfl, fun x => absurd rfl x, fun x => absurd x (by decide)⟩
    have e2 : ceTxt ⟨[118], 3, 0, 1, 0⟩ = tHere := by
      show cw 0 ++ 32 :: (decDigits 1 ++ ([] ++ (32 :: (decDigits 3 ++ 32 :: 61 :: [118])))) = _
      rw [decDigits_small (by decide), decDigits_small (by decide)]
      rfl
    rw [← e2]
    exact ceOf_txt o
  show (if (1 : Int) = 1 then (ceOf tHere).getD (unsaid 2) else unsaid 2) = _
  rw [if_pos rfl, h]
  rfl
theorem find0 : findG (sayM [97] ms0) 2 2 1 = (2, [118], 3) := by
  show (if 2 < 1 then _ else if handed (sayM [97] ms0) 2 (sayM [97] ms0 1) = true then findG (sayM [97] ms0) 2 1 (sayM [97] ms0 1).g else _) = _
  rw [say0a, if_neg (by decide), if_pos (by rfl)]
  show (if 2 < 2 then _ else if handed (sayM [97] ms0) 2 (sayM [97] ms0 2) = true then _ else (2, (sayM [97] ms0 2).v, (sayM [97] ms0 2).n)) = _
  rw [say0b, if_neg (by decide), if_neg (by decide)]
theorem fit2 {k v : List UInt8} {n : Int} (hk : k.length ≤ 100) (hv : v.length ≤ 100) : Fit [⟨k, v, n⟩] := fun p hp => by
  rw [List.mem_singleton] at hp
  rw [hp]
  have e1 : k.length ≤ maxLen := by unfold maxLen; omega
  have e2 : v.length ≤ maxLen := by unfold maxLen; omega
  exact ⟨e1, e2⟩
theorem own1 {w : World} {g n0 : Nat} {k v : List UInt8} {n : Int} (h : w.heap[g]? = some (.cells #[.string (bs k), .string (bs v), .int .i64 n] 63 (0, 0))) (hn : n0 ≤ g) : OwnP n0 w (some ⟨g, 0, none⟩) 1 [⟨k, v, n⟩] :=
  ⟨rfl, .inr ⟨g, 1, _, rfl, hn, h, Nat.le_refl _, by unfold maxLen; omega, rfl, rfl⟩⟩
/-- Copies of maps, in a row of one's own. -/
structure MIn (n0 : Nat) (w : World) (io : Option Addr) (ic : Nat) (ns : List Ml) : Prop where
  r : w.ownsRow n0 55 1 (.slice io ns.length ic) ns.length (ns.map mlV)
  p : ∀ m ∈ ns, OwnP n0 w m.ao m.c m.ps
  f : ∀ m ∈ ns, Fit m.ps ∧ (m.ps.length : Int) ≤ 3518437208780
theorem MIn.kept {n0 ic : Nat} {w w' : World} {io : Option Addr} {ns : List Ml} (h : MIn n0 w io ic ns) (k : Kept Nil w w') : MIn n0 w' io ic ns :=
  ⟨own_kept h.r k (fun _ _ _ x => x), fun m hm => (h.p m hm).kept k, h.f⟩
theorem MIn.mrow {n0 ic : Nat} {w : World} {io : Option Addr} {ns : List Ml} (h : MIn n0 w io ic ns) : MRow w io (ns.map Ml.ps) := fun i hi => by
  rw [List.length_map] at hi
  obtain ⟨g, rfl, _, cs, hb⟩ := own_some h.r (by omega)
  have hm := List.getElem_mem hi
  have hc : w.cell? ((⟨g, 0, none⟩ : Addr).add i) = some (mlV ns[i]) := own_cell h.r (by rw [List.getElem?_map, List.getElem?_eq_getElem hi]; rfl)
  simp only [List.getElem_map]
  exact ⟨⟨g, 0, none⟩, ns[i].ao, ns[i].c, rfl, lt_of_block hb, hc, (h.p _ hm).row (h.f _ hm).1, (h.p _ hm).nilc, (h.f _ hm).2⟩
theorem MIn.push {n0 ic n : Nat} {w : World} {io : Option Addr} {ns : List Ml} {m : Ml} (hn : n = ns.length) (h : w.ownsRow n0 55 1 (.slice io (n + 1) ic) (n + 1) (ns.map mlV ++ [mlV m])) (hp : ∀ x ∈ ns, OwnP n0 w x.ao x.c x.ps) (hm : OwnP n0 w m.ao m.c m.ps) (hf : ∀ x ∈ ns, Fit x.ps ∧ (x.ps.length : Int) ≤ 3518437208780) (hg : Fit m.ps ∧ (m.ps.length : Int) ≤ 3518437208780) : MIn n0 w io ic (ns ++ [m]) := by
  subst hn
  refine ⟨?_, fun x hx => ?_, fun x hx => ?_⟩
  · rw [List.length_append, List.map_append]
    exact h
  · rcases List.mem_append.1 hx with hx | hx
    · exact hp x hx
    · rw [List.mem_singleton] at hx; subst hx; exact hm
  · rcases List.mem_append.1 hx with hx | hx
    · exact hf x hx
    · rw [List.mem_singleton] at hx; subst hx; exact hg
theorem row_fit {B : Nat} {w : World} {ao : Option Addr} {ps : List Pr} (h : PairRow B w ao ps) : Fit ps := fun p hp => by
  obtain ⟨i, hi, e⟩ := List.mem_iff_getElem.1 hp
  obtain ⟨_, _, _, _, _, _, l1, l2⟩ := h i hi
  rw [e] at l1 l2
  exact ⟨l1, l2⟩
def kOfD (k v : List UInt8) (n : Nat) : List UInt8 := if v = [] ∧ n = 0 then [] else k
theorem prV_kD (k v : List UInt8) (n : Nat) : prV k v n = .agg #[.string (bs (kOfD k v n)), .string (bs v), .int .i64 n] := by
  unfold prV kOfD
  split
  · rename_i h
    rw [h.1, h.2]
    rfl
  · rfl
theorem Tryz.infoPl : (Tryz.prog.info? 55).map (fun i => (i.zero, i.size, i.bytes)) = some (some (.slice none 0 0), 1, 24) := by kernel_rfl
set_option maxRecDepth 100000 in
set_option maxHeartbeats 16000000 in
theorem cellFinds_any (w : World) (lo : Option Addr) (lc : Nat) (ms : List (List Pr)) (key : List UInt8) (hL : LW w) (hw : 14 ≤ w.heap.size) (hM : MRow w lo ms) (hlen : (ms.length : Int) ≤ 5864062014634) (hk : (key.length : Int) ≤ 140737488351232) :
    Calls Tryz.prog 7 #[.slice lo ms.length lc, .string (bs key)] w fun e w' => e = .returned (.bool true) ∧ Kept Nil w w' := by
  have HL : Hid (LW w ∧ 14 ≤ w.heap.size) := ⟨hL, hw⟩
  have HM : Hid (MRow w lo ms) := hM
  obtain ⟨n, Hn⟩ : ∃ n, Hid (n = ms.length) := ⟨_, rfl⟩
  rw [← Hn.out] at hlen ⊢
  obtain ⟨W3, hW3⟩ : ∃ W, W = ((w.alloc (.cells #[.string ⟨#[99, 97]⟩, .string ⟨#[103, 111, 110, 101, 32, 49, 32, 50]⟩, .int .i64 2] 63)).alloc (.cells #[.string ⟨#[99, 97]⟩, .string ⟨#[104, 101, 114, 101, 32, 49, 32, 51, 32, 61, 118]⟩, .int .i64 1] 63)).alloc (.cells #[.slice (some ⟨w.heap.size, 0, none⟩) 1 1, .slice (some ⟨w.heap.size + 1, 0, none⟩) 1 1] 55) := ⟨_, rfl⟩
  have KW3 : Hid (Kept Nil w W3) := by rw [hW3]; exact (((Kept.refl _ _).alloc _).alloc _).alloc _
  have HM3 : Hid (MIn w.heap.size W3 (some ⟨w.heap.size + 2, 0, none⟩) 2 [⟨some ⟨w.heap.size, 0, none⟩, 1, [⟨[99, 97], tGone, 2⟩]⟩, ⟨some ⟨w.heap.size + 1, 0, none⟩, 1, [⟨[99, 97], tHere, 1⟩]⟩]) := by
    have b1 : W3.heap[w.heap.size]? = some (.cells #[.string (bs [99, 97]), .string (bs tGone), .int .i64 2] 63 (0, 0)) := by rw [hW3]; exact blk_past (blk_past (blk_new _ _) _) _
    have b2 : W3.heap[w.heap.size + 1]? = some (.cells #[.string (bs [99, 97]), .string (bs tHere), .int .i64 1] 63 (0, 0)) := by
      rw [hW3]
      have := blk_new (w.alloc (.cells #[.string ⟨#[99, 97]⟩, .string ⟨#[103, 111, 110, 101, 32, 49, 32, 50]⟩, .int .i64 2] 63)) (.cells #[.string ⟨#[99, 97]⟩, .string ⟨#[104, 101, 114, 101, 32, 49, 32, 51, 32, 61, 118]⟩, .int .i64 1] 63)
      rw [show (w.alloc (.cells #[.string ⟨#[99, 97]⟩, .string ⟨#[103, 111, 110, 101, 32, 49, 32, 50]⟩, .int .i64 2] 63)).heap.size = w.heap.size + 1 by simp] at this
      exact blk_past this _
    have b3 : W3.heap[w.heap.size + 2]? = some (.cells #[.slice (some ⟨w.heap.size, 0, none⟩) 1 1, .slice (some ⟨w.heap.size + 1, 0, none⟩) 1 1] 55 (0, 0)) := by
      rw [hW3]
      have := blk_new ((w.alloc (.cells #[.string ⟨#[99, 97]⟩, .string ⟨#[103, 111, 110, 101, 32, 49, 32, 50]⟩, .int .i64 2] 63)).alloc (.cells #[.string ⟨#[99, 97]⟩, .string ⟨#[104, 101, 114, 101, 32, 49, 32, 51, 32, 61, 118]⟩, .int .i64 1] 63)) (.cells #[.slice (some ⟨w.heap.size, 0, none⟩) 1 1, .slice (some ⟨w.heap.size + 1, 0, none⟩) 1 1] 55)
      rw [show ((w.alloc (.cells #[.string ⟨#[99, 97]⟩, .string ⟨#[103, 111, 110, 101, 32, 49, 32, 50]⟩, .int .i64 2] 63)).alloc (.cells #[.string ⟨#[99, 97]⟩, .string ⟨#[104, 101, 114, 101, 32, 49, 32, 51, 32, 61, 118]⟩, .int .i64 1] 63)).heap.size = w.heap.size + 2 by simp] at this
      exact this
    refine ⟨⟨rfl, .inr ⟨w.heap.size + 2, 2, _, rfl, by omega, b3, Nat.le_refl _, by unfold maxLen; omega, rfl, rfl⟩⟩, fun m hm => ?_, fun m hm => ?_⟩
    · simp only [List.mem_cons, List.not_mem_nil, or_false] at hm
      rcases hm with rfl | rfl
      · exact own1 b1 (Nat.le_refl _)
      · exact own1 b2 (by omega)
    · simp only [List.mem_cons, List.not_mem_nil, or_false] at hm
      rcases hm with rfl | rfl
      · exact ⟨fit2 (by decide) (by decide), by simp⟩
      · exact ⟨fit2 (by decide) (by decide), by simp⟩
  have FN0 := cfind_all [97] ms0 (some ⟨w.heap.size + 2, 0, none⟩) 2 W3 HM3.out.mrow (by simp) (by decide) (Nat.le_trans HL.out.2 KW3.out.size) (HL.out.1.kept KW3.out)
  rw [show ms0.length = 2 from rfl, find0] at FN0
  unfold FindPost at FN0
  simp only at FN0
  rw [show prV [97] [118] 3 = .agg #[.string ⟨#[97]⟩, .string ⟨#[118]⟩, .int .i64 3] from rfl, show (!decide (([118] : List UInt8) = [] ∧ 3 = 0)) = true from rfl] at FN0
  obtain ⟨i2, hi2, hx0, hx1, hx2⟩ := info_parts Tryz.infoPr
  obtain ⟨i3, hi3, hy0, hy1, hy2⟩ := info_parts Tryz.infoPl
  clear hL hw hM
  go_enter Tryz.func7, Tryz.ntmps7
  go_wp2_with fail
  rw [← hW3]
  go_fit FN0
  rintro _ w4 ⟨rfl, k4⟩
  obtain ⟨W4, hW4⟩ : ∃ Y, Y = w4.alloc (.cells #[.string ⟨#[97]⟩, .string ⟨#[118]⟩, .int .i64 3] 63) := ⟨_, rfl⟩
  obtain ⟨G, HGe⟩ : ∃ A, Hid (A = w4.heap.size) := ⟨_, rfl⟩
  have HGB : Hid (W4.heap[G]? = some (.cells #[.string ⟨#[97]⟩, .string ⟨#[118]⟩, .int .i64 3] 63 (0, 0))) := by rw [hW4, HGe.out]; exact blk_new _ _
  have K4 : Hid (Kept Nil w W4) := by rw [hW4]; exact KW3.out.trans (Kept.alloc k4 _)
  go_upto_region 2 with fail
  rw [← hW4, ← HGe.out]
  clear hW3 hW4 HGe k4 FN0 HM3 KW3
  have g0 : W4.cell? ⟨G, 0, none⟩ = some (.string ⟨#[97]⟩) := blk_at HGB.out 0 rfl
  have g1 : W4.cell? ⟨G, 1, none⟩ = some (.string ⟨#[118]⟩) := blk_at HGB.out 1 rfl
  have g2 : W4.cell? ⟨G, 2, none⟩ = some (.int .i64 3) := blk_at HGB.out 2 rfl
  obtain ⟨n0, Hn0⟩ : ∃ m, Hid (m = W4.heap.size) := ⟨_, rfl⟩
  have HNw : Hid (w.heap.size ≤ n0) := by rw [Hn0.out]; exact K4.out.size
  go_upto_block 0 with fail
  go_cut [4, 8, 9, 10] from 40 to 60 (fun _ v _ _ wc => Hid (∃ io ic ns, v = .slice io n ic ∧ MIn n0 wc io ic ns ∧ ns.map Ml.ps = ms ∧ Kept Nil w wc))
  case first =>
    go_wp2_with fail
    go_loopw [4, 8, 9] (fun _ v u wr => ∃ (i ic : Nat) (io : Option Addr) (ns : List Ml), i ≤ n ∧ v = .slice io i ic ∧ u = .int .i64 i ∧ Hid (i = ns.length) ∧ Hid (MIn n0 wr io ic ns) ∧ Hid (ns.map Ml.ps = ms.take i) ∧ Hid (Kept Nil w wr) ∧ Hid (n0 ≤ wr.heap.size)) (fun _ _ u _ => n - (intOf u).toNat)
    case atStart => exact ⟨0, 0, none, [], Nat.zero_le _, rfl, rfl, rfl, ⟨World.ownsRow_nil _ _ _ _, fun m hm => (by cases hm), fun m hm => (by cases hm)⟩, rfl, K4.out, by rw [Hn0.out]; exact Nat.le_refl _⟩
    case round =>
      obtain ⟨i, ic, io, ns, hin, rfl, rfl, Hi, HI, HT, HK, HZ⟩ := hrel
      obtain ⟨wo, hwo⟩ : ∃ x : World, x = wr := ⟨_, rfl⟩
      rw [← hwo] at HI HK HZ ⊢
      clear hwo g0 g1 g2
      by_cases hlt : i < n
      · have hli : (i : Int) < n := by omega
        have hld : decide ((i : Int) < (n : Int)) = true := decide_eq_true hli
        have hil : i < ms.length := by rw [← Hn.out]; exact hlt
        obtain ⟨a, ao, c, ea, hab, hcell, hrow, hnone, hpl⟩ := (HM.out.kept HK.out) i hil
        subst ea
        obtain ⟨ps, Hps⟩ : ∃ ps, Hid (ps = ms[i]) := ⟨ms[i], (rfl : ms[i] = ms[i])⟩
        rw [← Hps.out] at hcell hrow hnone hpl
        have HROW : Hid (PairRow wo.heap.size wo ao ps) := hrow
        have HPL : Hid ((ps.length : Int) ≤ 3518437208780) := hpl
        have HAB : Hid (a.block < wo.heap.size) := hab
        have IP := refIsPairs_any wo.heap.size c ao ps wo hrow (by omega)
        obtain ⟨m, Hm⟩ : ∃ m, Hid (m = ps.length) := ⟨_, rfl⟩
        rw [← Hm.out] at hcell IP
        have HC : Hid (wo.cell? (a.add i) = some (.slice ao m c)) := hcell
        clear hrow hnone hpl hab
        cases hb : pairsOk ps with
        | false =>
          rw [hb] at IP
          clear hb
          go_wp2_with fail
          go_fit IP
          rintro _ w5 ⟨rfl, k5⟩
          have HF : Hid (Kept Nil w w5) := HK.out.trans k5
          clear IP k5 hcell
          go_wp2
          go_ret
          exact ⟨rfl, HF.out⟩
        | true =>
          rw [hb] at IP
          clear hb
          go_wp2_with fail
          go_fit IP
          rintro _ w5 ⟨rfl, k5⟩
          have K5 : Hid (Kept Nil wo w5) := k5
          have c5 : w5.cell? (a.add i) = some (.slice ao m c) := cell_kept k5 (fun _ x => x) HC.out
          clear IP k5 hcell
          have HNR : Hid (w5.ownsRow n0 63 3 (.slice none 0 0) 0 []) := World.ownsRow_nil _ _ _ _
          have SR1 : Hid (Src Tryz.prog 3 55 (.slice ao m c) m (kvCells ps) w5) := by
            rw [Hm.out]
            exact (HROW.out.nil K5.out).src
          have HM1 : Hid (0 + m ≤ maxLen ∧ (0 + m) * 40 ≤ 140737488355328) := by have := HPL.out; have := Hm.out; constructor <;> (try unfold maxLen) <;> omega
          have HLL : Hid (i + 1 ≤ maxLen ∧ (i + 1) * 24 ≤ 140737488355328) := by constructor <;> (try unfold maxLen) <;> omega
          have hz5 : n0 ≤ w5.heap.size := Nat.le_trans HZ.out K5.out.size
          have HIR : Hid (w5.ownsRow n0 55 1 (.slice io i ic) i (ns.map mlV)) := by
            have := (HI.out.kept K5.out).r
            rw [← Hi.out] at this
            exact this
          have HIP : Hid (∀ x ∈ ns, OwnP n0 w5 x.ao x.c x.ps) := (HI.out.kept K5.out).p
          go_upto_region 7 with (at_builtin; first
            | (refine wpList_append_src _ rfl _ _ 55 55 rfl n0 63 i2 (.agg #[.string ⟨#[]⟩, .string ⟨#[]⟩, .int .i64 0]) 3 40 Tryz.underlying55 hi2 hx0 hx1 hx2 rfl (.slice none 0 0) 0 [] rfl HNR.out (.slice ao m c) m (kvCells ps) rfl SR1.out HM1.out.1 HM1.out.2 hz5 ?_; intro a6 c6 w6 ho6 hg6; have HO6 : Hid (OwnP n0 w6 a6 c6 ps) := (by have e : 0 + m = ps.length := (by rw [Hm.out]; omega); rw [e, List.nil_append] at ho6; exact ho6); have KG6 : Hid (Kept Nil w5 w6) := (Kept.refl _ _).grown0 hg6 (fun g e => by simp [Value.ownBlock] at e); clear ho6 hg6; obtain ⟨W6, hW6⟩ : ∃ Y, Y = w6.alloc (.cells #[.slice a6 m c6] 55) := ⟨_, rfl⟩; have K6 : Hid (Kept Nil w5 W6) := (by rw [hW6]; exact KG6.out.alloc _); have SR2 : Hid (Src Tryz.prog 1 81 (.slice (some ⟨w6.heap.size, 0, none⟩) 1 1) 1 [.slice a6 m c6] W6) := (by rw [hW6]; exact one_src w6 55 81 _ Tryz.underlying81 rfl); have HIR6 : Hid (W6.ownsRow n0 55 1 (.slice io i ic) i (ns.map mlV)) := own_kept HIR.out K6.out (fun _ _ _ x => x); have hz6 : n0 ≤ W6.heap.size := Nat.le_trans hz5 K6.out.size; have HO6W : Hid (OwnP n0 W6 a6 c6 ps) := (by rw [hW6]; exact HO6.out.kept ((Kept.refl _ _).alloc _)))
            | (rw [← hW6]; go_must (refine wpList_append_src _ rfl _ _ 81 81 rfl n0 55 i3 (.slice none 0 0) 1 24 Tryz.underlying81 hi3 hy0 hy1 hy2 rfl (.slice io i ic) i (ns.map mlV) rfl HIR6.out (.slice (some ⟨w6.heap.size, 0, none⟩) 1 1) 1 [.slice a6 m c6] rfl SR2.out HLL.out.1 HLL.out.2 hz6 ?_); intro a7 c7 w7 ho7 hg7; have HO7 : Hid (w7.ownsRow n0 55 1 (.slice a7 (i + 1) c7) (i + 1) (ns.map mlV ++ [.slice a6 m c6])) := ho7; have KG7 : Hid (Kept (TyG n0 55) W6 w7) := kept_grown HIR6.out hg7; have KN7 : Hid (Kept Nil w w7) := ((HK.out.trans K5.out).trans K6.out).grownB HIR6.out hg7 HNw.out; clear ho7 hg7))
          have HIN : Hid (MIn n0 w7 a7 c7 (ns ++ [⟨a6, c6, ps⟩])) := by
            refine MIn.push Hi.out ?_ (fun x hx => own_ty (own_kept (HIP.out x hx) K6.out (fun _ _ _ x => x)) KG7.out (by decide)) (own_ty HO6W.out KG7.out (by decide)) HI.out.f ⟨row_fit HROW.out, HPL.out⟩
            have := HO7.out
            rw [Hm.out] at this
            exact this
          have HTN : Hid ((ns ++ [(⟨a6, c6, ps⟩ : Ml)]).map Ml.ps = ms.take (i + 1)) := by
            show _ = _
            rw [List.map_append, HT.out, List.take_add_one, List.getElem?_eq_getElem hil, ← Hps.out]
            rfl
          have HIL : Hid (i + 1 = (ns ++ [(⟨a6, c6, ps⟩ : Ml)]).length) := by show _ = _; rw [List.length_append, Hi.out]; rfl
          have HZ7 : Hid (n0 ≤ w7.heap.size) := Nat.le_trans hz6 KG7.out.size
          go_wp2
          go_roundw
          case rel => exact ⟨i + 1, c7, a7, ns ++ [(⟨a6, c6, ps⟩ : Ml)], by omega, rfl, by go_num, HIL.out, HIN.out, HTN.out, KN7.out, HZ7.out⟩
          case measure => simp [intOf]; omega
      · obtain rfl : i = n := by omega
        have hld : decide ((i : Int) < (i : Int)) = false := decide_eq_false (by omega)
        have hirr : ¬ (i : Int) < (i : Int) := by omega
        have HF : Hid (∃ io' ic' ns', (.slice io i ic : Value) = .slice io' i ic' ∧ MIn n0 wo io' ic' ns' ∧ ns'.map Ml.ps = ms ∧ Kept Nil w wo) := ⟨io, ic, ns, rfl, HI.out, by rw [HT.out, Hn.out, List.take_length], HK.out⟩
        go_wp2
        go_meet
        exact HF.out
  case rest =>
    obtain ⟨io, ic, ns, e8, hI, hns, hK⟩ := hcut.out
    subst e8
    rename World => w9
    have HI : Hid (MIn n0 w9 io ic ns) := hI
    have HNS : Hid (ns.map Ml.ps = ms) := hns
    have HK : Hid (Kept Nil w w9) := hK
    have HL9 : Hid (∀ Y, Kept Nil w Y → LW Y ∧ 14 ≤ Y.heap.size) := fun Y kY => ⟨HL.out.1.kept kY, Nat.le_trans HL.out.2 kY.size⟩
    have hml : (ms.length : Int) ≤ 6000000000000 := by have := Hn.out; omega
    obtain ⟨F, HF⟩ : ∃ F, Hid (F = findG (sayM key ms) ms.length ms.length 1) := ⟨_, rfl⟩
    have FD := cfind_all key ms io ic w9 (by have := hI.mrow; rw [hns] at this; exact this) hk hml (HL9.out w9 hK).2 (HL9.out w9 hK).1
    have PL := fun Y (kY : Kept Nil w Y) => refPlace_any key ms lo lc Y (HM.out.kept kY) hk hml
    rw [← HF.out] at FD
    simp only [← HF.out] at PL
    unfold FindPost at FD PL
    rw [prV_kD] at FD PL
    rw [← Hn.out] at FD PL
    obtain ⟨kk, Hkk⟩ : ∃ z, Hid (z = kOfD key F.2.1 F.2.2) := ⟨_, rfl⟩
    obtain ⟨z1, Hz1⟩ : ∃ z, Hid (z = (!decide (F.2.1 = [] ∧ F.2.2 = 0))) := ⟨_, rfl⟩
    rw [← Hkk.out, ← Hz1.out] at FD PL
    obtain ⟨f1, fv, fn⟩ := F
    simp only at FD PL
    clear hcut hI hns hK hml g0 g1 g2
    apply_assumption
    go_wp2_with fail
    go_fit FD
    rintro _ x1 ⟨rfl, k1⟩
    obtain ⟨X1, hX1⟩ : ∃ Y, Y = x1.alloc (.cells #[.string (bs kk), .string (bs fv), .int .i64 fn] 63) := ⟨_, rfl⟩
    obtain ⟨A, HAe⟩ : ∃ A, Hid (A = x1.heap.size) := ⟨_, rfl⟩
    have HAB : Hid (X1.heap[A]? = some (.cells #[.string (bs kk), .string (bs fv), .int .i64 fn] 63 (0, 0))) := by rw [hX1, HAe.out]; exact blk_new _ _
    have K1 : Hid (Kept Nil w9 X1) := by rw [hX1]; exact Kept.alloc k1 _
    go_upto_region 13 with fail
    rw [← hX1, ← HAe.out]
    clear hX1 HAe k1 FD
    have PL1 := PL X1 (HK.out.trans K1.out)
    go_wp2_with fail
    go_fit PL1
    rintro _ x2 ⟨rfl, k2⟩
    obtain ⟨X2, hX2⟩ : ∃ Y, Y = x2.alloc (.cells #[.string (bs kk), .string (bs fv), .int .i64 fn] 63) := ⟨_, rfl⟩
    obtain ⟨B, HBe⟩ : ∃ A, Hid (A = x2.heap.size) := ⟨_, rfl⟩
    have HBB : Hid (X2.heap[B]? = some (.cells #[.string (bs kk), .string (bs fv), .int .i64 fn] 63 (0, 0))) := by rw [hX2, HBe.out]; exact blk_new _ _
    have K2 : Hid (Kept Nil X1 X2) := by rw [hX2]; exact Kept.alloc k2 _
    go_upto_region 14 with fail
    rw [← hX2, ← HBe.out]
    clear hX2 HBe k2 PL1 PL
    have K9 : Hid (Kept Nil w9 X2) := K1.out.trans K2.out
    have HFB : Hid (∀ Y, Kept Nil X2 Y → Y.cell? ⟨A, 0, none⟩ = some (.string (bs kk)) ∧ Y.cell? ⟨A, 1, none⟩ = some (.string (bs fv)) ∧ Y.cell? ⟨A, 2, none⟩ = some (.int .i64 fn) ∧ Y.cell? ⟨B, 0, none⟩ = some (.string (bs kk)) ∧ Y.cell? ⟨B, 1, none⟩ = some (.string (bs fv)) ∧ Y.cell? ⟨B, 2, none⟩ = some (.int .i64 fn) ∧ Kept Nil w Y) := fun Y kY => by
      have ha := (K2.out.trans kY).block _ _ HAB.out (fun x => x)
      have hb := kY.block _ _ HBB.out (fun x => x)
      exact ⟨blk_at ha 0 rfl, blk_at ha 1 rfl, blk_at ha 2 rfl, blk_at hb 0 rfl, blk_at hb 1 rfl, blk_at hb 2 rfl, HK.out.trans (K9.out.trans kY)⟩
    go_wp2_with fail
    go_loopw [4, 17] (fun _ u wr => ∃ i : Nat, i ≤ n ∧ u = .int .i64 i ∧ Hid (Kept Nil X2 wr)) (fun _ u _ => n - (intOf u).toNat)
    case atStart => exact ⟨0, Nat.zero_le _, rfl, Kept.refl _ _⟩
    case round =>
      obtain ⟨i, hin, rfl, HKr⟩ := hrel
      obtain ⟨wo, hwo⟩ : ∃ x : World, x = wr := ⟨_, rfl⟩
      rw [← hwo] at HKr ⊢
      clear hwo
      by_cases hlt : i < n
      · have hli : (i : Int) < n := by omega
        have hld : decide ((i : Int) < (n : Int)) = true := decide_eq_true hli
        have hil : i < ms.length := by rw [← Hn.out]; exact hlt
        have hi0 : (0 : Int) ≤ i := by omega
        have HKD : Hid (Kept Nil w wo.drew) := HK.out.trans (K9.out.trans HKr.out.drew)
        have hmr := ((HI.out.kept (K9.out.trans HKr.out)).kept (Kept.refl _ _).drew).mrow
        rw [HNS.out] at hmr
        obtain ⟨a1, o1, c1, e1, hb1, hc1, hr1, _, hp1⟩ := hmr i hil
        obtain ⟨a2, o2, c2, e2, hb2, hc2, hr2, _, _⟩ := (HM.out.kept HKD.out) i hil
        subst e1 e2
        have SP := samePairs_any wo.drew.heap.size c1 c2 o1 o2 ms[i] wo.drew hr1 hr2 (by omega)
        obtain ⟨m, Hm⟩ : ∃ m, Hid (m = (ms[i]).length) := ⟨(ms[i]).length, (rfl : (ms[i]).length = (ms[i]).length)⟩
        rw [← Hm.out] at SP hc1 hc2
        have HC1 : Hid (wo.cell? (a1.add i) = some (.slice o1 m c1)) := hc1
        have HC2 : Hid (wo.cell? (a2.add i) = some (.slice o2 m c2)) := hc2
        have q1 := HC1.out
        have q2 := HC2.out
        clear hr1 hr2 hp1 hb1 hb2 hmr
        go_upto_region 17 with fail
        go_region_held3 (fun w' => w'.cell? (a1.add i) = some (.slice o1 m c1) ∧ w'.cell? (a2.add i) = some (.slice o2 m c2)) (first | assumption | go_keep) (first | (go_at_call 37; go_must (go_fit SP); rintro _ wa ⟨rfl, ka⟩; have Ka : Hid (Kept Nil wo wa) := ((Kept.refl _ _).drew).trans ka; have sa : wa.cell? (a1.add i) = some (.slice o1 m c1) ∧ wa.cell? (a2.add i) = some (.slice o2 m c2) := ⟨cell_kept Ka.out (fun _ x => x) HC1.out, cell_kept Ka.out (fun _ x => x) HC2.out⟩; clear ka))
        all_goals
          have HKa : Hid (Kept Nil X2 wa) := HKr.out.trans Ka.out
          clear SP sa q1 q2 hc1 hc2
          go_wp2
          go_roundw
          case rel => exact ⟨i + 1, by omega, by go_num, HKa.out⟩
          case measure => simp [intOf]; omega
      · obtain rfl : i = n := by omega
        have hld : decide ((i : Int) < (i : Int)) = false := decide_eq_false (by omega)
        have hirr : ¬ (i : Int) < (i : Int) := by omega
        obtain ⟨a0, a1, a2, b0, b1, b2, kf⟩ := HFB.out wo HKr.out
        have HKF : Hid (Kept Nil w wo) := kf
        clear kf
        go_wp2
        go_ret
        exact ⟨by simp, HKF.out⟩
end Go.Proofs.YtflnjlbafchnaaaGreatDoor
