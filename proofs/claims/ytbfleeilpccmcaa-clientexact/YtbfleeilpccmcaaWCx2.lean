/-
  ClientExact: the walk.
-/
import Derived.Test.YtbfleeilpccmcaaWCx1
namespace Go.Proofs.Ytbfleeilpccmcaa
open Go.RowKit

def wantOne : Cl := wantC (newC 1) 2 [97] [] 0
theorem one_facts : newOk [1] 1 = true ∧ wantE (newC 1) 2 [97] [] 0 = 0 ∧ goes wantOne = true ∧ askV wantOne 1 = #[.int .i64 1, .int .i64 1, .int .i64 0, .int .i64 0, .int .i64 0, .string ⟨#[]⟩, .string ⟨#[]⟩, .int .i64 0, .int .i64 0] := ⟨rfl, rfl, rfl, rfl⟩
theorem own_farC {B b m n cn kc : Nat} {w : World} {c : Cl} {an an' ko : Option Addr} {c' n' : Nat} {xs : List Value} (h : w.ownsRow B 3 1 (.slice an n' c') m xs) (hb : ClAt w b c an' n cn ko kc) : ∀ a, an = some a → a.block ≠ b := fun a ha e => by
  rcases h.2 with ⟨e1, _⟩ | ⟨g, cap, cur, hv, _, hh, _⟩
  · simp only [Value.slice.injEq] at e1
    rw [ha] at e1
    exact absurd e1.1 (by simp)
  · simp only [Value.slice.injEq] at hv
    rw [ha] at hv
    have e1 := hv.1
    simp only [Option.some.injEq] at e1
    rw [e1] at e
    simp only at e
    unfold ClAt at hb
    rw [← e, hh] at hb
    simp at hb
set_option maxRecDepth 100000 in
set_option maxHeartbeats 8000000 in
theorem clientExact_any (cz cs : Nat) (ao so : Option Addr) (zs : List Int) (pat : Int) (ss : List St) (w : World) (hr : IntRow w.heap.size w ao zs) (hl : (zs.length + 1) * 8 ≤ 140737488355328) (hs : StRow w.heap.size w so ss) (hls : (ss.length : Int) ≤ 4611686018427380000) :
    Calls Try.prog 3 #[.slice ao zs.length cz, .int .i64 pat, .slice so ss.length cs] w fun e w' => e = .returned (.bool true) ∧ Kept Nil w w' := by
  obtain ⟨W, hW⟩ : ∃ W, W = w.alloc (.cells #[.int .i64 1] 3) := ⟨_, rfl⟩
  have KW : Hid (Kept Nil w W) := by rw [hW]; exact (Kept.refl _ _).alloc _
  obtain ⟨A, HAe⟩ : ∃ A, Hid (A = w.heap.size) := ⟨_, rfl⟩
  have HA1 : Hid (W.heap[A]? = some (.cells #[.int .i64 1] 3 (0, 0))) := by rw [hW, HAe.out]; exact blk_new _ _
  have hAn : w.heap.size ≤ A := by have := HAe.out; omega
  have HR1 : Hid (IntRow W.heap.size W (some ⟨A, 0, none⟩) [1]) := fun j hj => by
    obtain rfl : j = 0 := by simp at hj; exact hj
    exact ⟨⟨A, 0, none⟩, rfl, lt_of_block HA1.out, blk_cell HA1.out 0⟩
  have N1 := new_yes W.heap.size 1 (some ⟨A, 0, none⟩) [1] 1 W HR1.out (by simp) one_facts.1
  have eA := HAe.out
  subst eA
  subst hW
  have HRow : Hid (IntRow w.heap.size w ao zs) := hr
  have HScr : Hid (StRow w.heap.size w so ss) := hs
  clear hr hs
  go_enter Try.func3, Try.ntmps3
  go_upto_region 2 with (go_at_call 5; go_fit N1; rintro _ w1 ⟨b0, an0, cn0, rfl, h1, o1, n1, k1⟩; have H1 : Hid (ClAt w1 b0 (newC 1) an0 1 cn0 none 0) := h1; have O1 : Hid (w1.ownsRow (w.alloc (.cells #[.int .i64 1] 3)).heap.size 3 1 (.slice an0 1 cn0) 1 (intCells [1])) := o1; have K1 : Hid (Kept Nil w w1 ∧ w.heap.size ≤ b0) := ⟨KW.out.trans k1, Nat.le_trans KW.out.size n1⟩; clear h1 o1 n1 k1)
  have WA := want_any b0 1 cn0 0 (newC 1) an0 none 2 0 [97] [] w1 H1.out (by decide) (by decide)
  rw [one_facts.2.1] at WA
  go_upto_region 4 with (go_at_call 6; go_fit WA; rintro _ w2 ⟨rfl, h2, k2⟩; have H2 : Hid (ClAt w2 b0 wantOne an0 1 cn0 none 0) := h2; have K2 : Hid (Kept (One b0) w1 w2) := k2; clear h2 k2)
  have O2 : Hid (w2.ownsRow (w.alloc (.cells #[.int .i64 1] 3)).heap.size 3 1 (.slice an0 1 cn0) 1 (intCells [1])) := own_keptT O1.out K2.out (fun q cs _ hq e => by
    have e2 : q = b0 := e
    have h9 := H1.out
    unfold ClAt at h9
    rw [e2, h9] at hq
    simp at hq)
  have R2 : Hid (IntRow w2.heap.size w2 an0 [1]) := by
    have h9 : w2.ownsRow (w.alloc (.cells #[.int .i64 1] 3)).heap.size 3 1 (.slice an0 1 cn0) 1 (intCells ([1] ++ [])) := by rw [List.append_nil]; exact O2.out
    exact row_own h9
  have hfar : ∀ a, an0 = some a → a.block ≠ b0 := own_farC O2.out H2.out
  have NX := next_any b0 1 cn0 0 wantOne an0 none [1] w2.heap.size 1 w2 H2.out R2.out rfl (by decide) rfl (by decide) (by decide) hfar (by decide) (by decide)
  rw [one_facts.2.2.1, one_facts.2.2.2] at NX
  go_upto_region 5 with (go_at_call 7; go_fit NX; rintro _ w3 ⟨rfl, h3, k3⟩; have K3 : Hid (Kept Nil w w3) := (K1.out.1.old K2.out K1.out.2).old k3 K1.out.2; clear h3 k3)
  obtain ⟨D, HDe⟩ : ∃ D, Hid (D = w3.heap.size) := ⟨_, rfl⟩
  obtain ⟨X, hX⟩ : ∃ X, X = w3.alloc (.cells #[.int .i64 1, .int .i64 1, .int .i64 0, .int .i64 0, .int .i64 0, .string ⟨#[]⟩, .string ⟨#[]⟩, .int .i64 0, .int .i64 0] 34) := ⟨_, rfl⟩
  have HX : Hid (Kept Nil w X ∧ X.heap[D]? = some (.cells #[.int .i64 1, .int .i64 1, .int .i64 0, .int .i64 0, .int .i64 0, .string ⟨#[]⟩, .string ⟨#[]⟩, .int .i64 0, .int .i64 0] 34 (0, 0))) := by
    rw [hX, HDe.out]
    exact ⟨K3.out.alloc _, blk_new _ _⟩
  rw [← HDe.out, ← hX]
  clear hX
  have x0 : X.cell? ⟨D, 0, none⟩ = some (.int .i64 1) := blk_at HX.out.2 0 rfl
  have x1 : X.cell? ⟨D, 1, none⟩ = some (.int .i64 1) := blk_at HX.out.2 1 rfl
  have x2 : X.cell? ⟨D, 2, none⟩ = some (.int .i64 0) := blk_at HX.out.2 2 rfl
  have x3 : X.cell? ⟨D, 3, none⟩ = some (.int .i64 0) := blk_at HX.out.2 3 rfl
  have x4 : X.cell? ⟨D, 4, none⟩ = some (.int .i64 0) := blk_at HX.out.2 4 rfl
  have x5 : X.cell? ⟨D, 5, none⟩ = some (.string ⟨#[]⟩) := blk_at HX.out.2 5 rfl
  have x6 : X.cell? ⟨D, 6, none⟩ = some (.string ⟨#[]⟩) := blk_at HX.out.2 6 rfl
  have x7 : X.cell? ⟨D, 7, none⟩ = some (.int .i64 0) := blk_at HX.out.2 7 rfl
  have x8 : X.cell? ⟨D, 8, none⟩ = some (.int .i64 0) := blk_at HX.out.2 8 rfl
  go_upto_region 7 with fail
  clear x0 x1 x2 x3 x4 x5 x6 x7 x8
  have RX : Hid (IntRow w.heap.size X ao zs) := HRow.out.nil HX.out.1
  have IN := ints_any w.heap.size cz ao zs X RX.out hl
  go_upto_region 8 with (go_at_call 8; go_fit IN; rintro _ w4 ⟨g, c4, rfl, o4, k4⟩; have O4 : Hid (w4.ownsRow X.heap.size 3 1 (.slice (some ⟨g, 0, none⟩) (zs.length + 1) c4) (zs.length + 1) (intCells (zs ++ [99]))) := o4; have K4 : Hid (Kept Nil X w4) := k4; clear o4 k4)
  have R4 : Hid (IntRow w4.heap.size w4 (some ⟨g, 0, none⟩) zs) := row_own O4.out
  have hl2 : (zs.length : Int) ≤ 9223372036854775807 := by omega
  cases hok : newOk zs pat with
  | false =>
    have NN := new_no w4.heap.size c4 (some ⟨g, 0, none⟩) zs pat w4 R4.out hl2 hok
    have RN := rnew_no w.heap.size cz ao zs pat w4 (RX.out.nil K4.out) hl2 hok
    go_upto_region 9 with (go_at_call 5; go_fit NN; rintro _ w5 ⟨rfl, e5⟩; have E5 : Hid (w5 = w4) := e5; clear e5)
    rw [E5.out]
    clear E5
    go_upto_region 10 with (go_at_call 9; go_fit RN; rintro _ w6 ⟨rfl, k6⟩; have K6 : Hid (Kept Nil w4 w6) := k6; clear k6)
    go_wp2
    go_ret
    exact ⟨rfl, (HX.out.1.trans K4.out).trans K6.out⟩
  | true =>
    have hrise : rise 0 zs = true := by
      unfold newOk at hok
      simp only [Bool.and_eq_true] at hok
      exact hok.1.1.2
    have h9 : zs.length ≤ 9 := (rise_few hrise).2.2
    have hpos : 0 < zs.length := by
      cases zs with
      | nil => simp [newOk] at hok
      | cons z t => simp
    have hpat : 1 ≤ pat ∧ pat ≤ 100 := by
      unfold newOk at hok
      simp only [Bool.and_eq_true, decide_eq_true_eq] at hok
      exact ⟨hok.1.2, hok.2⟩
    have NN := new_yes w4.heap.size c4 (some ⟨g, 0, none⟩) zs pat w4 R4.out hl2 hok
    have HP0 : Hid (PC 0 zs.length (newC pat)) := PC.new hpos hpat.1 hpat.2
    go_upto_region 9 with (go_at_call 5; go_fit NN; rintro _ w5 ⟨b, an, cn, rfl, h5, o5, n5, k5⟩; have H5 : Hid (ClAt w5 b (newC pat) an zs.length cn none 0) := h5; have O5 : Hid (w5.ownsRow w4.heap.size 3 1 (.slice an zs.length cn) zs.length (intCells zs)) := o5; have K5 : Hid (Kept Nil w4 w5 ∧ w4.heap.size ≤ b) := ⟨k5, n5⟩; clear h5 o5 n5 k5)
    have RN := rnew_yes w.heap.size cz ao zs pat w5 ((RX.out.nil K4.out).nil K5.out.1) hl2 hok
    go_upto_region 14 with (go_at_call 9; go_fit RN; rintro _ w6 ⟨y, r, rfl, h6, s6, ro6, rc6, n6, k6⟩; have H6 : Hid (RAt w6 y r ao zs.length cz ∧ Sim (newC pat) r ∧ r.ro = none ∧ r.rc = 0) := ⟨h6, s6, ro6, rc6⟩; have K6 : Hid (Kept Nil w5 w6 ∧ w5.heap.size ≤ y) := ⟨k6, n6⟩; clear h6 s6 ro6 rc6 n6 k6)
    have OG : Hid (w6.ownsRow w.heap.size 3 1 (.slice (some ⟨g, 0, none⟩) zs.length c4) zs.length ((intCells (zs ++ [99])).take zs.length)) := own_mono (own_shrink (own_keptT O4.out (K5.out.1.trans K6.out.1) (fun _ _ _ _ x => x))) HX.out.1.size
    have KA : Hid (Kept Nil w w6) := ((HX.out.1.trans K4.out).trans K5.out.1).trans K6.out.1
    have hg4 : g < w4.heap.size := (World.ownsRow.lt O4.out g rfl).2
    have OI := overInts3_any w.heap.size c4 zs.length (some ⟨g, 0, none⟩) _ w6 OG.out KA.out.size h9
    have h45 := K5.out.1.size
    have h56 := K6.out.1.size
    have hw4 := (HX.out.1.trans K4.out).size
    have hXg := (World.ownsRow.lt O4.out g rfl).1
    have hwX := HX.out.1.size
    go_upto_region 15 with (go_at_call 10; go_fit OI; rintro _ w7 ⟨rfl, g7⟩; have G7 : Hid (w6.grownBy w7 (some g)) := g7; clear g7)
    have hbw : w.heap.size ≤ b := Nat.le_trans hw4 K5.out.2
    have hyw : w.heap.size ≤ y := Nat.le_trans (Nat.le_trans hw4 h45) K6.out.2
    have KG : Hid (Kept (fun k _ => k = g) w6 w7) := ⟨G7.out.os, G7.out.tape, G7.out.output, G7.out.size, fun k o ho hx => by
      rw [G7.out.block k (lt_of_block ho) (fun e => hx (by simpa using e))]
      exact ho⟩
    have M7 : Hid (MX w w7 b y (newC pat) r zs an cn none 0 ao cz []) := by
      have hgb : b ≠ g := by have := K5.out.2; omega
      have hgy : y ≠ g := by have := K6.out.2; omega
      refine ⟨KG.out.block _ _ (K6.out.1.block _ _ H5.out (fun x => x.elim)) (fun e => hgb e), KG.out.block _ _ H6.out.1 (fun e => hgy e), own_mono (own_keptT (own_keptT O5.out K6.out.1 (fun _ _ _ _ x => x)) KG.out (fun q _ hq _ e => by have e2 : q = g := e; omega)) hw4, (HRow.out.nil KA.out).kept KG.out (fun q _ hq e => by have e2 : q = g := e; omega), World.ownsRow_nil _ _ _ _, ?_, ?_, hbw, hyw, ?_⟩
      · rw [H6.out.2.2.1, H6.out.2.2.2]
        exact KIn.none
      · exact ⟨KG.out.os.trans KA.out.os, KG.out.tape.trans KA.out.tape, KG.out.output.trans KA.out.output, Nat.le_trans KA.out.size KG.out.size, fun q o ho hx => KG.out.block _ _ (KA.out.block q o ho hx) (fun e => by have e2 : q = g := e; have := lt_of_block ho; omega)⟩
      · have := lt_of_block H5.out; have := K6.out.2; omega
    have P7 : Hid (PX 0 zs.length (newC pat) r []) := ⟨HP0.out, H6.out.2.1, fun e => by cases e⟩
    clear hok
    go_wp2
    go_loopw [16] (fun iv wr => ∃ k : Nat, k ≤ ss.length ∧ iv = .int .i64 k ∧ Hid (∃ c r ko kc rks, MX w wr b y c r zs an cn ko kc ao cz rks ∧ PX k zs.length c r rks)) (fun iv _ => ss.length - (intOf iv).toNat)
    case atStart => exact ⟨0, Nat.zero_le _, rfl, _, _, _, _, _, M7.out, P7.out⟩
    case round =>
      obtain ⟨k, hk, rfl, HI⟩ := hrel
      rename World => wr
      obtain ⟨c, r', ko, kc, rks, m, p⟩ := HI.out
      by_cases hlt : k < ss.length
      · obtain ⟨a, rfl, hab, hcells, l1, l2, hkin⟩ := (HScr.out.nil m.kept) k hlt
        obtain ⟨s, hs9⟩ : ∃ s, s = ss[k] := ⟨_, rfl⟩
        rw [← hs9] at hcells l1 l2 hkin
        clear hs9
        have d0 : wr.cell? (a.add (k * 11)) = some (.int .i64 s.kd) := hcells.1
        have d1 : wr.cell? ⟨(a.add (k * 11)).block, (a.add (k * 11)).off + 1, none⟩ = some (.int .i64 s.id) := hcells.2.1
        have d2 : wr.cell? ⟨(a.add (k * 11)).block, (a.add (k * 11)).off + 2, none⟩ = some (.int .i64 s.ck) := hcells.2.2.1
        have d3 : wr.cell? ⟨(a.add (k * 11)).block, (a.add (k * 11)).off + 3, none⟩ = some (.string (bs s.ckey)) := hcells.2.2.2.1
        have d4 : wr.cell? ⟨(a.add (k * 11)).block, (a.add (k * 11)).off + 4, none⟩ = some (.string (bs s.cval)) := hcells.2.2.2.2.1
        have d5 : wr.cell? ⟨(a.add (k * 11)).block, (a.add (k * 11)).off + 5, none⟩ = some (.int .i64 s.ci) := hcells.2.2.2.2.2.1
        have d6 : wr.cell? ⟨(a.add (k * 11)).block, (a.add (k * 11)).off + 6, none⟩ = some (.int .i64 s.er) := hcells.2.2.2.2.2.2.1
        have d7 : wr.cell? ⟨(a.add (k * 11)).block, (a.add (k * 11)).off + 7, none⟩ = some (.int .i64 s.rk) := hcells.2.2.2.2.2.2.2.1
        have d8 : wr.cell? ⟨(a.add (k * 11)).block, (a.add (k * 11)).off + 8, none⟩ = some (.string (bs s.rval)) := hcells.2.2.2.2.2.2.2.2.1
        have d9 : wr.cell? ⟨(a.add (k * 11)).block, (a.add (k * 11)).off + 9, none⟩ = some (.int .i64 s.rver) := hcells.2.2.2.2.2.2.2.2.2.1
        have d10 : wr.cell? ⟨(a.add (k * 11)).block, (a.add (k * 11)).off + 10, none⟩ = some (.slice s.ao s.ks.length s.cc) := hcells.2.2.2.2.2.2.2.2.2.2
        have ST := step_any w wr k b y cn kc cz c r' zs an ko ao rks s m p ⟨by omega, by omega, h9, l1, l2, hkin⟩
        have hki : (k : Int) < ss.length := by omega
        clear m p hcells HI M7 P7 hkin
        go_wp2_with (go_at_call 11; go_fit ST; rintro _ w8 ⟨rfl, c8, r8, ko8, kc8, rks8, m8, p8⟩; have M8 : Hid (∃ c r ko kc rks, MX w w8 b y c r zs an cn ko kc ao cz rks ∧ PX (k + 1) zs.length c r rks) := ⟨c8, r8, ko8, kc8, rks8, m8, p8⟩; clear m8 p8)
        go_roundw
        case rel => exact ⟨k + 1, by omega, by go_num, by have e9 := M8.out; rw [show ((k + 1 : Nat) : Int) = (k : Int) + 1 by omega]; exact e9⟩
        case measure => simp [intOf]; omega
      · have hx := p.pc.nx
        obtain ⟨nd, hnd⟩ : ∃ nd, zs[c.nx] = nd := ⟨_, rfl⟩
        have LX := look_any b zs.length cn kc c an ko zs wr.heap.size wr m.cl m.rowX rfl hx
        rw [hnd] at LX
        have LY := fun w1 (k1 : Kept Nil wr w1) => rlook_any y zs.length cz c r' ao zs w.heap.size nd w1 (m.next k1).rl p.sim (m.next k1).ny rfl hx hnd
        have HM : Hid (Kept Nil w wr) := m.kept
        have hki : ¬ (k : Int) < ss.length := by omega
        go_wp2_with (first | (go_at_call 12; go_fit LX; rintro _ w8 ⟨rfl, k8⟩; have K8 : Hid (Kept Nil wr w8) := k8; clear k8) | (go_at_call 13; go_fit (LY w8 K8.out); rintro _ w9 ⟨rfl, k9⟩; have K9 : Hid (Kept Nil w8 w9) := k9; clear k9))
        go_ret
        exact ⟨by simp, (HM.out.trans K8.out).trans K9.out⟩

end Go.Proofs.Ytbfleeilpccmcaa
