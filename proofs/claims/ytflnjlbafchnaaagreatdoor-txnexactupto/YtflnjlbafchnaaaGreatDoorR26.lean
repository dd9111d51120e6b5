/-
  Joined: WTzd, WTze, WTzf.
-/
import Derived.Test.YtflnjlbafchnaaaGreatDoorR25
import Derived.BigQuiet
import Derived.Deep.DeepCutAuto
import Derived.Deep.DeepFit
import Derived.Test.YtflnjlbafchnaaaGreatDoorR09
/-
  TxnExact: the list that is written over, and the walk's end.
-/
namespace Go.Proofs.YtflnjlbafchnaaaGreatDoor
open Go.RowKit

theorem ptCells_set : ∀ (ps : List Pt) (k : Nat), k < ps.length → ∀ x : Pt, ((ptCells ps).set (k * 2) (.string (bs x.k))).set (k * 2 + 1) (.int .i64 x.a) = ptCells (ps.set k x)
  | [], k, h, _ => by simp at h
  | p :: ps, 0, _, x => by simp [ptCells]
  | p :: ps, k + 1, h, x => by
    have ih := ptCells_set ps k (by simpa using h) x
    have e : ∀ qs : List Pt, ∀ q : Pt, ptCells (q :: qs) = .string (bs q.k) :: .int .i64 q.a :: ptCells qs := fun qs q => by simp [ptCells]
    rw [List.set_cons_succ, e, e, ← ih, show (k + 1) * 2 = k * 2 + 1 + 1 from by omega, List.set_cons_succ, List.set_cons_succ, List.set_cons_succ, List.set_cons_succ]
theorem OwnT.setT {B g c k : Nat} {w : World} {ps : List Pt} (h : OwnT B w (some ⟨g, 0, none⟩) c ps) (hk : k < ps.length) (x : Pt) : OwnT B ((w.setCell ⟨g, k * 2, none⟩ (.string (bs x.k))).setCell ⟨g, k * 2 + 1, none⟩ (.int .i64 x.a)) (some ⟨g, 0, none⟩) c (ps.set k x) := by
  have := own_setAtK (own_setAtK h (k * 2) (.string (bs x.k))) (k * 2 + 1) (.int .i64 x.a)
  rw [ptCells_set ps k hk x] at this
  unfold OwnT
  rw [List.length_set]
  exact this
theorem OwnT.frees {B c : Nat} {w : World} {ao : Option Addr} {ps : List Pt} (h : OwnT B w ao c ps) (h0 : 0 < ps.length) : ∃ g cs, ao = some ⟨g, 0, none⟩ ∧ B ≤ g ∧ w.heap[g]? = some (.cells cs 29 (0, 0)) := by
  rcases h.2 with ⟨h1, _⟩ | ⟨g, cap, cur, hv, hb, hh, _⟩
  · simp at h1
    omega
  · simp only [Value.slice.injEq] at hv
    exact ⟨g, cur, hv.1, hb, hh⟩
theorem rise_eq {qs rs ps : List Pt} (h1 : RiseT qs) (h2 : RiseT rs) (p1 : qs.Perm ps) (p2 : rs.Perm ps) : qs = rs := by
  have e : ∀ {l : List Pt}, RiseT l → l.Pairwise fun a b => lessB a.k b.k = true := fun {l} h => List.pairwise_iff_getElem.2 (fun i j _ hj hij => h i j hij hj)
  exact List.Perm.eq_of_pairwise (fun a b _ _ x y => absurd (less_trans x y) (by rw [less_irrefl]; decide)) (e h1) (e h2) (p1.trans p2.symm)
/-- What both constructors have said. -/
def Said (n0 : Nat) (w : World) (la : Option Addr) (vx vY ve : Value) : Prop :=
  (vx = .pointer none ∧ vY = .pointer none ∧ ve = .int .i64 22) ∨
  ∃ (bx bY : Nat) (t : Tx) (D : Dx) (ax : Option Addr) (cx : Nat) (ay : Option Addr) (cy : Nat) (oo : Option Addr) (oc : Nat) (oq : Option Addr) (qc : Nat), vx = .pointer (some ⟨bx, 0, none⟩) ∧ vY = .pointer (some ⟨bY, 0, none⟩) ∧ ve = .int .i64 0 ∧ BT n0 w bx bY t D ax cx ay cy oo oc oq qc ∧ n0 ≤ bx ∧ n0 ≤ bY ∧ (∀ a b, la = some a → ax = some b → a.block ≠ b.block) ∧ (∀ a b, la = some a → ay = some b → a.block ≠ b.block)
theorem Said.grown {n0 c : Nat} {w w' : World} {la : Option Addr} {ps : List Pt} {vx vY ve : Value} (h : Said n0 w la vx vY ve) (ho : OwnT n0 w la c ps) (hg : w.grownBy w' (Value.slice la ps.length c).ownBlock) : Said n0 w' la vx vY ve := by
  rcases h with h | ⟨bx, bY, t, D, ax, cx, ay, cy, oo, oc, oq, qc, h1, h2, h3, hb, l1, l2, f1, f2⟩
  · exact .inl h
  · have k : Kept (fun q _ => ∃ a, la = some a ∧ a.block = q) w w' := ⟨hg.os, hg.tape, hg.output, hg.size, fun q o ho hx => by
      rw [hg.block q (lt_of_block ho) (fun e => hx (own_slice.1 e.symm))]
      exact ho⟩
    exact .inr ⟨bx, bY, t, D, ax, cx, ay, cy, oo, oc, oq, qc, h1, h2, h3, ⟨hb.tx.keptX k (fun o ⟨a, ha, x⟩ => ho.ne hb.tx a ha x), hb.px.keptX k (fun b hb' o ⟨a, ha, x⟩ => f1 a b ha hb' x), hb.ox.keptX k (fun b hb' o ⟨a, ha, x⟩ => ho.neI hb.ox a b ha hb' x), hb.td.keptX k (fun o ⟨a, ha, x⟩ => by
      obtain ⟨_, cur, fr, hp⟩ := ho.lt a ha
      exact ne_ty hp hb.td (by decide) x), hb.py.keptX k (fun b hb' o ⟨a, ha, x⟩ => f2 a b ha hb' x), hb.oy.keptX k (fun b hb' o ⟨a, ha, x⟩ => ho.neI hb.oy a b ha hb' x), hb.far, hb.sm, hb.ok⟩, l1, l2, f1, f2⟩
noncomputable def tT10 : Code := (Tryz.f3.body.bind (findTailT 10)).getD .skip
set_option maxRecDepth 1000000 in
set_option maxHeartbeats 40000000 in
theorem txT10 (w X : World) (n m rc pc lc : Nat) (ro po la : Option Addr) (rs : List Re) (ps : List Pt) (vx vY ve : Value)
    (HS0 : Hid (Said w.heap.size X la vx vY ve)) (HO0 : Hid (OwnT w.heap.size X la lc ps)) (HK0 : Hid (Kept Nil w X)) (HP : Hid (PtRow w.heap.size w po ps)) (Hm : Hid (m = ps.length)) (HM : Hid ((m : Int) ≤ 4611686018427387904))
    (HL : Hid (∀ Y, Kept Nil w Y → LD Y)) (HR : Hid (ReRow w.heap.size w ro rs)) (Hn : Hid (n = rs.length)) (HN : Hid ((n : Int) ≤ 4611686018427387904)) (fv0 fv3 fv4 fv5 fv6 fv7 fv8 fv9 fv10 fv16 fv17 fv18 fv19 fv20 fv21 fv22 fv23 fv24 fv25 fv26 fv27 fv28 fv29 fv30 fv31 fv32 fv33 fv34 fv35 fv36 fv37 fv38 fv39 fv40 fv41 fv42 fv43 fv44 fv45 fv46 fv47 fv48 fv49 fv50 fv51 fv52 fv53 fv54 fv55 fv56 fv57 fv58 fv59 fv60 fv61 fv62 fv63 fv64 fv65 fv66 fv67 fv68 fv69 fv70 fv71 fv72 fv73 fv74 fv75 fv76 fv77 fv78 fv79 fv80 fv81 fv82 fv83 fv84 fv85 fv86 fv87 fv88 fv89 fv90 fv91 fv92 fv93 fv94 fv95 fv96 fv97 fv98 fv99 fv100 fv101 fv102 fv103 fv104 fv105 fv106 fv107 fv108 fv109 fv110 fv111 fv112 fv113 fv114 fv115 fv116 fv117 fv118 fv119 fv120 fv121 fv122 fv123 fv124 fv125 fv126 fv127 fv128 fv129 fv130 fv131 fv132 fv133 fv134 fv135 fv136 fv137 fv138 fv139 fv140 fv141 fv142 fv143 fv144 fv145 fv146 fv147 fv148 fv149 fv150 fv151 fv152 fv153 fv154 fv155 fv156 fv157 fv158 fv159 fv160 : Value) :
    Code.wp Tryz.prog tT10 (bodyPost Tryz.prog Tryz.f3 (fun e w' => e = .returned (.bool true) ∧ Kept Nil w w')) ⟨#[fv0, .slice po m pc, .slice ro n rc, fv3, fv4, fv5, fv6, fv7, fv8, fv9, fv10, .slice la m lc, vx, ve, vY, ve, fv16, fv17, fv18, fv19, fv20, fv21, fv22, fv23, fv24, fv25, fv26, fv27, fv28, fv29, fv30, fv31, fv32, fv33, fv34, fv35, fv36, fv37, fv38, fv39, fv40, fv41, fv42, fv43, fv44, fv45, fv46, fv47, fv48, fv49, fv50, fv51, fv52, fv53, fv54, fv55, fv56, fv57, fv58, fv59, fv60, fv61, fv62, fv63, fv64, fv65, fv66, fv67, fv68, fv69, fv70, fv71, fv72, fv73, fv74, fv75, fv76, fv77, fv78, fv79, fv80, fv81, fv82, fv83, fv84, fv85, fv86, fv87, fv88, fv89, fv90, fv91, fv92, fv93, fv94, fv95, fv96, fv97, fv98, fv99, fv100, fv101, fv102, fv103, fv104, fv105, fv106, fv107, fv108, fv109, fv110, fv111, fv112, fv113, fv114, fv115, fv116, fv117, fv118, fv119, fv120, fv121, fv122, fv123, fv124, fv125, fv126, fv127, fv128, fv129, fv130, fv131, fv132, fv133, fv134, fv135, fv136, fv137, fv138, fv139, fv140, fv141, fv142, fv143, fv144, fv145, fv146, fv147, fv148, fv149, fv150, fv151, fv152, fv153, fv154, fv155, fv156, fv157, fv158, fv159, fv160], []⟩ X := by
  conv => arg 2; whnf
  dsimp only
  have hm9 : (m : Int) ≤ 4611686018427387904 := HM.out
  go_wp2_with fail
  go_loopw [6, 16] (fun _ u wr => ∃ (k : Nat) (ys : List Pt), k ≤ m ∧ u = .int .i64 k ∧ Hid (ys.length = m) ∧ Hid (∀ j, k ≤ j → ys[j]? = ps[j]?) ∧ Hid (OwnT w.heap.size wr la lc ys) ∧ Hid (X.grownBy wr (Value.slice la m lc).ownBlock)) (fun _ u _ => m - (intOf u).toNat)
  case atStart => exact ⟨0, ps, by omega, rfl, Hm.out.symm, fun _ _ => rfl, HO0.out, grown_reflK _ _⟩
  case round =>
    obtain ⟨k, ys, hk, rfl, HYL, HY, HO, HG⟩ := hrel
    obtain ⟨wo, hwo⟩ : ∃ x : World, x = wr := ⟨_, rfl⟩
    rw [← hwo] at HO HG ⊢
    clear hwo
    have HKW : Hid (Kept Nil w wo) := HK0.out.grown HG.out (fun q e => by
      obtain ⟨x, hx, rfl⟩ := own_slice.1 e
      exact (HO0.out.lt x hx).1)
    by_cases hlt : k < m
    · have hki : (k : Int) < m := by omega
      have hkd : decide ((k : Int) < (m : Int)) = true := decide_eq_true hki
      have hky : k < ys.length := by rw [HYL.out]; exact hlt
      have hkp : k < ps.length := by rw [← Hm.out]; exact hlt
      obtain ⟨g, cs, rfl, hgb, hh⟩ := HO.out.frees (by omega)
      obtain ⟨a, ha, hab, p0, p1⟩ := (HP.out.keptX HKW.out (fun _ _ _ x => x)) k hkp
      obtain ⟨a2, ha2, _, q0, q1⟩ := HO.out.row k hky
      obtain rfl := Option.some.inj ha2
      subst ha
      have ey : ys[k] = ps[k] := by
        have := HY.out k (Nat.le_refl _)
        rw [List.getElem?_eq_getElem hky, List.getElem?_eq_getElem hkp] at this
        exact Option.some.inj this
      rw [ey] at q0 q1
      have f0 : wo.frozen? ⟨g, k * 2, none⟩ = false := blk_free hh (k * 2)
      have f1 : wo.frozen? ⟨g, k * 2 + 1, none⟩ = false := blk_free hh (k * 2 + 1)
      rw [addr_addE] at q0 q1
      have HO2 : ∀ Y : World, OwnT w.heap.size Y (some ⟨g, 0, none⟩) lc ys → OwnT w.heap.size ((Y.setCell ⟨g, k * 2, none⟩ (.string (bs [111, 118, 101, 114]))).setCell ⟨g, k * 2 + 1, none⟩ (.int .i64 0)) (some ⟨g, 0, none⟩) lc (ys.set k ⟨[111, 118, 101, 114], 0⟩) := fun Y h => h.setT hky ⟨[111, 118, 101, 114], 0⟩
      have HY2 : Hid (∀ j, k + 1 ≤ j → (ys.set k ⟨[111, 118, 101, 114], 0⟩)[j]? = ps[j]?) := fun j hj => by
        rw [List.getElem?_set_ne (by omega)]
        exact HY.out j (by omega)
      have HL2 : Hid ((ys.set k ⟨[111, 118, 101, 114], 0⟩).length = m) := by show _ = _; rw [List.length_set]; exact HYL.out
      obtain ⟨pk, Hpk⟩ : ∃ z, Hid (z = ps[k].k) := ⟨ps[k].k, (rfl : ps[k].k = ps[k].k)⟩
      obtain ⟨pa, Hpa⟩ : ∃ z, Hid (z = ps[k].a) := ⟨ps[k].a, (rfl : ps[k].a = ps[k].a)⟩
      rw [← Hpk.out] at p0 q0
      rw [← Hpa.out] at p1 q1
      clear ey hh Hpk Hpa HYL HY hky hkp
      go_wp2_with fail
      go_quiet (fail)
      obtain ⟨W9, hW9⟩ : ∃ Y, Y = wo.drewN nq := ⟨_, rfl⟩
      have HO9 := HO2 W9 (by rw [hW9]; exact HO.out.keptX ((Kept.refl Nil _).drewN _) (fun _ _ _ x => x))
      have HO8 : Hid (OwnT w.heap.size ((W9.setCell ⟨g, k * 2, none⟩ (.string (bs [111, 118, 101, 114]))).setCell ⟨g, k * 2 + 1, none⟩ (.int .i64 0)) (some ⟨g, 0, none⟩) lc (ys.set k ⟨[111, 118, 101, 114], 0⟩)) := HO9
      have HG9 : Hid (X.grownBy ((W9.setCell ⟨g, k * 2, none⟩ (.string (bs [111, 118, 101, 114]))).setCell ⟨g, k * 2 + 1, none⟩ (.int .i64 0)) (Value.slice (some ⟨g, 0, none⟩) m lc).ownBlock) := grown_set (grown_set (by rw [hW9]; exact ⟨HG.out.os, HG.out.tape, HG.out.output, HG.out.size, HG.out.block⟩) _) _
      have e0 : W9.cell? ⟨g, k * 2, none⟩ = some (.string (bs pk)) := by rw [hW9]; exact q0
      have e1 : W9.cell? ⟨g, k * 2 + 1, none⟩ = some (.int .i64 pa) := by rw [hW9]; exact q1
      have g0 : W9.frozen? ⟨g, k * 2, none⟩ = false := by rw [hW9]; exact f0
      have g1 : W9.frozen? ⟨g, k * 2 + 1, none⟩ = false := by rw [hW9]; exact f1
      rw [← hW9]
      clear hW9 HO9 HO2 p0 p1 q0 q1 f0 f1 HG HO HKW
      go_wp2
      go_roundw
      case rel => exact ⟨k + 1, ys.set k ⟨[111, 118, 101, 114], 0⟩, by omega, by go_num, HL2.out, HY2.out, HO8.out, HG9.out⟩
      case measure => simp [intOf]; omega
    · have hki : ¬ (k : Int) < m := by omega
      have hkd : decide ((k : Int) < (m : Int)) = false := decide_eq_false hki
      have hgm := HG.out
      rw [Hm.out] at hgm
      have HS : Hid (Said w.heap.size wo la vx vY ve) := HS0.out.grown HO0.out hgm
      clear HS0 HO0 HK0 HG HO HY HYL hgm
      rcases HS.out with ⟨rfl, rfl, rfl⟩ | ⟨bx, bY, t, D, ax, cx, ay, cy, oo, oc, oq, qc, rfl, rfl, rfl, hb, l1, l2, -, -⟩
      · go_wp2
        go_ret
        exact ⟨rfl, HKW.out⟩
      · have HBT : Hid (BT w.heap.size wo bx bY t D ax cx ay cy oo oc oq qc) := hb
        have HBB : Hid (w.heap.size ≤ bx ∧ w.heap.size ≤ bY) := ⟨l1, l2⟩
        clear hb l1 l2 HS
        go_upto_region 18 with fail
        go_upto_if 92 with fail
        go_cut [] from 91 to 92 (fun wc => wc = wo)
        case first =>
          go_wp2
          go_meet
          exact rfl
        case rest =>
          rename World => w9
          have e9 : w9 = wo := hcut
          clear hcut
          rw [e9]
          apply_assumption
          exact txT20 w wo bx bY n rc ro ax ay rs cx cy t D oo oq oc qc HBT HKW HBB HL HR Hn HN _ _ _ _ _ _ _ _ _ _ _ _ _ _ _ _ _ _ _ _ _ _ _ _ _ _ _ _ _ _ _ _ _ _ _ _ _ _ _ _ _ _ _ _ _ _ _ _ _ _ _ _ _ _ _ _ _ _ _ _ _ _ _ _ _ _ _ _ _ _ _ _ _ _ _ _ _ _ _ _ _ _ _ _ _ _ _ _ _ _ _ _ _ _ _ _ _ _ _ _ _ _ _ _ _ _ _ _ _ _ _ _ _ _ _ _ _ _ _ _ _ _ _ _ _ _ _ _ _ _ _ _ _ _ _ _ _ _ _ _ _ _ _ _ _ _ _ _ _ _ _ _ _ _ _ _ _ _
end Go.Proofs.YtflnjlbafchnaaaGreatDoor

/-
  TxnExact: the walk.
-/
namespace Go.Proofs.YtflnjlbafchnaaaGreatDoor
open Go.RowKit

theorem PtRow.upX {B B' : Nat} {w w' : World} {ao : Option Addr} {ps : List Pt} (h : PtRow B w ao ps) (k : Kept Nil w w') (hb : B ≤ B') : PtRow B' w' ao ps := fun j hj => by
  obtain ⟨a, h1, h2, h3⟩ := (h.keptX k (fun _ _ _ x => x)) j hj
  exact ⟨a, h1, by omega, h3⟩
theorem good1 : NewGood 1 [⟨[97], 1⟩] := ⟨by decide, by decide, by decide, by decide, by decide, by decide⟩
theorem next1 : (newTx 1 [⟨[97], 1⟩]).next = (⟨4, [116, 49], [111, 112, 101, 110], 0⟩, true) := by
  have e : Lib.decDigits 1 = [49] := by first | rfl | kernel_rfl | (unfold Lib.decDigits; rfl) | (simp [Lib.decDigits])
  show (swapC (116 :: Lib.decDigits 1) wOpen 0, true) = _
  rw [e]
  rfl
theorem new1_any (w : World) : Calls Tryz.prog 10 #[.int .i64 1, .slice (some ⟨w.heap.size, 0, none⟩) 1 1] (w.alloc (.cells #[.string ⟨#[97]⟩, .int .i64 1] 29)) fun e w' => ∃ B b ap cp, e = .returned (.tuple #[.pointer (some ⟨b, 0, none⟩), .int .i64 0]) ∧ TxAt w' b (newTx 1 [⟨[97], 1⟩]) ap none cp 0 ∧ OwnT B w' ap cp [⟨[97], 1⟩] ∧ Kept Nil w w' := by
  have hb : (w.alloc (.cells #[.string ⟨#[97]⟩, .int .i64 1] 29)).heap[w.heap.size]? = some (.cells #[.string ⟨#[97]⟩, .int .i64 1] 29 (0, 0)) := blk_new _ _
  have hr : PtRow (w.alloc (.cells #[.string ⟨#[97]⟩, .int .i64 1] 29)).heap.size (w.alloc (.cells #[.string ⟨#[97]⟩, .int .i64 1] 29)) (some ⟨w.heap.size, 0, none⟩) [⟨[97], 1⟩] := fun j hj => by
    have e : j = 0 := by simpa using hj
    subst e
    refine ⟨_, rfl, lt_of_block hb, ?_, ?_⟩
    · rw [addr_addE]; exact blk_at hb 0 rfl
    · rw [addr_addE]; exact blk_at hb 1 rfl
  refine (new_any _ 1 _ 1 [⟨[97], 1⟩] _ hr (by intro p hp; simp at hp; subst hp; decide) (by decide)).mono fun e w' h => ?_
  rcases h with ⟨h, _⟩ | ⟨_, qs, b, ap, cp, hp, _, he, ht, ho, _, hk⟩
  · exact absurd good1 h
  · rw [List.perm_singleton.1 hp] at ht ho
    exact ⟨_, b, ap, cp, he, ht, ho, ((Kept.refl _ _).alloc _).trans hk⟩
set_option maxRecDepth 100000 in
set_option maxHeartbeats 8000000 in
theorem txnExact_any (w : World) (id : Int) (po ro : Option Addr) (pc rc : Nat) (ps : List Pt) (rs : List Re) (hL0 : LD w) (hP0 : PtRow w.heap.size w po ps) (hkl : ∀ p ∈ ps, p.k.length ≤ maxLen) (hpl : ps.length ≤ 1048576) (hR0 : ReRow w.heap.size w ro rs) (hlen : (rs.length : Int) ≤ 4611686018427387904) :
    Calls Tryz.prog 3 #[.int .i64 id, .slice po ps.length pc, .slice ro rs.length rc] w fun e w' => e = .returned (.bool true) ∧ Kept Nil w w' := by
  have HL : Hid (∀ Y, Kept Nil w Y → LD Y) := fun Y kY => hL0.kept kY
  have HR : Hid (ReRow w.heap.size w ro rs) := hR0
  have HP : Hid (PtRow w.heap.size w po ps) := hP0
  have HKL : Hid (∀ p ∈ ps, p.k.length ≤ maxLen) := hkl
  obtain ⟨n, Hn⟩ : ∃ n, Hid (n = rs.length) := ⟨_, rfl⟩
  obtain ⟨m, Hm⟩ : ∃ m, Hid (m = ps.length) := ⟨_, rfl⟩
  have HN : Hid ((n : Int) ≤ 4611686018427387904) := by show _ ≤ _; rw [Hn.out]; exact hlen
  have HM : Hid (m ≤ 1048576) := by show _ ≤ _; rw [Hm.out]; exact hpl
  rw [← Hn.out, ← Hm.out]
  clear hL0 hP0 hkl hpl hR0 hlen
  have NW := new1_any w
  go_enter Tryz.func3, Tryz.ntmps3
  go_wp2_with fail
  go_fit NW
  rintro _ w1 ⟨B1, b1, ap1, cp1, rfl, htx1, hown1, k1⟩
  have K1 : Hid (Kept Nil w w1) := k1
  have NX := next_any w1 b1 _ ap1 none cp1 0 htx1 B1 hown1 (newTx_ok good1 (List.Perm.refl _)) (HL.out w1 k1)
  unfold NxPost at NX
  rw [next1] at NX
  have NX : Calls Tryz.prog 11 #[.pointer (some ⟨b1, 0, none⟩)] w1 fun e w' => e = .returned (.tuple #[.agg #[.int .i64 4, .string ⟨#[116, 49]⟩, .string ⟨#[111, 112, 101, 110]⟩, .int .i64 0], .bool true]) ∧ Kept Nil w1 w' := NX
  clear k1 htx1 hown1 NW
  go_wp2_with fail
  go_fit NX
  rintro _ w2 ⟨rfl, k2⟩
  obtain ⟨W2, hW2⟩ : ∃ Y, Y = w2.alloc (.cells #[.int .i64 4, .string ⟨#[116, 49]⟩, .string ⟨#[111, 112, 101, 110]⟩, .int .i64 0] 31) := ⟨_, rfl⟩
  obtain ⟨A2, HA2e⟩ : ∃ A, Hid (A = w2.heap.size) := ⟨_, rfl⟩
  have HA2 : Hid (W2.heap[A2]? = some (.cells #[.int .i64 4, .string ⟨#[116, 49]⟩, .string ⟨#[111, 112, 101, 110]⟩, .int .i64 0] 31 (0, 0))) := by rw [hW2, HA2e.out]; exact blk_new _ _
  have KW2 : Hid (Kept Nil w2 W2) := by rw [hW2]; exact (Kept.refl _ _).alloc _
  have K2W : Hid (Kept Nil w W2) := K1.out.trans (Kept.trans k2 KW2.out)
  go_upto_region 5 with fail
  rw [← hW2, ← HA2e.out]
  clear hW2 HA2e k2 KW2 NX K1
  have a0 : W2.cell? ⟨A2, 0, none⟩ = some (.int .i64 4) := blk_at HA2.out 0 rfl
  have a1 : W2.cell? ⟨A2, 1, none⟩ = some (.string ⟨#[116, 49]⟩) := blk_at HA2.out 1 rfl
  have a2 : W2.cell? ⟨A2, 2, none⟩ = some (.string ⟨#[111, 112, 101, 110]⟩) := blk_at HA2.out 2 rfl
  have a3 : W2.cell? ⟨A2, 3, none⟩ = some (.int .i64 0) := blk_at HA2.out 3 rfl
  go_upto_region 7 with fail
  clear a0 a1 a2 a3 HA2
  obtain ⟨i0, hi0, hz0, hz1, hz2⟩ := info_parts Tryz.infoPt
  have HNR : Hid (W2.ownsRow w.heap.size 29 2 (.slice none 0 0) 0 []) := World.ownsRow_nil _ _ _ _
  have SRK : Hid (Src Tryz.prog 2 22 (.slice po m pc) m (ptCells ps) W2) := by
    have h := (HP.out.keptX K2W.out (fun _ _ _ x => x)).src (c := pc)
    rw [← Hm.out] at h
    exact h
  have HMX : Hid (0 + m ≤ maxLen ∧ (0 + m) * 24 ≤ 140737488355328) := by have := HM.out; constructor <;> (try unfold maxLen) <;> omega
  have hz7 : w.heap.size ≤ W2.heap.size := K2W.out.size
  go_upto_region 8 with (at_builtin; go_must (refine wpList_append_src _ rfl _ _ 22 22 rfl w.heap.size 29 i0 (.agg #[.string ⟨#[]⟩, .int .i64 0]) 2 24 Tryz.underlying22 hi0 hz0 hz1 hz2 rfl (.slice none 0 0) 0 [] rfl HNR.out (.slice po m pc) m (ptCells ps) rfl SRK.out HMX.out.1 HMX.out.2 hz7 ?_); intro la lc w8 ho8 hg8; have HO8 : Hid (OwnT w.heap.size w8 la lc ps) := (by have e : 0 + m = ps.length := (by rw [Hm.out]; omega); rw [e, List.nil_append] at ho8; exact ho8); have KG8 : Hid (Kept Nil w w8) := K2W.out.grown hg8 (fun g e => by simp [Value.ownBlock] at e); have em8 : 0 + m = m := Nat.zero_add m; clear ho8 hg8)
  try rw [em8]
  clear em8 HNR SRK HMX hz7 K2W hi0 hz0 hz1 hz2
  have NE : Calls Tryz.prog 10 #[.int .i64 id, .slice la m lc] w8 (NewPost w8 id ps) := by
    rw [Hm.out]
    exact new_any _ lc la id ps w8 HO8.out.row HKL.out (by rw [← Hm.out]; have := HM.out; omega)
  have DN : ∀ Y, Kept Nil w Y → Calls Tryz.prog 12 #[.int .i64 id, .slice po m pc] Y (DNewPost Y id ps) := fun Y kY => by
    rw [Hm.out]
    exact dnew_any Y pc po id ps (HP.out.upX kY kY.size) HKL.out (by rw [← Hm.out]; have := HM.out; omega)
  have HLB : Hid (∀ a, la = some a → a.block < w8.heap.size) := fun a ha => by
    obtain ⟨_, cur, fr, hb⟩ := HO8.out.lt a ha
    exact lt_of_block hb
  have HM9 : Hid ((m : Int) ≤ 4611686018427387904) := by have := HM.out; show _ ≤ _; omega
  go_wp2_with fail
  go_fit NE
  rintro _ w9 h9
  rcases h9 with ⟨hbad, rfl, k9⟩ | ⟨hgood, qs, bx, ax, cx, hperm, hrise, rfl, htx, hox, hbx, k9⟩
  · have K9 : Hid (Kept Nil w8 w9) := k9
    have D9 := DN w9 (KG8.out.trans k9)
    clear k9 NE DN
    go_upto_region 9 with fail
    go_cut [14, 15] from 56 to 61 (fun a b wc => Hid (a = .pointer none ∧ b = .int .i64 22 ∧ Kept Nil w9 wc))
    case first =>
      go_wp2_with fail
      go_fit D9
      rintro _ w10 h10
      rcases h10 with ⟨_, rfl, k10⟩ | ⟨hg, _⟩
      · have HD : Hid (Kept Nil w9 w10) := k10
        go_wp2
        go_meet
        exact ⟨rfl, rfl, HD.out⟩
      · exact absurd hg hbad
    case rest =>
      obtain ⟨e14, e15, k10⟩ := hcut.out
      subst e14 e15
      rename World => w10
      have HS : Hid (Said w.heap.size w10 la (.pointer none) (.pointer none) (.int .i64 22)) := .inl ⟨rfl, rfl, rfl⟩
      have HO10 : Hid (OwnT w.heap.size w10 la lc ps) := (HO8.out.keptX K9.out (fun _ _ _ x => x)).keptX k10 (fun _ _ _ x => x)
      have HK10 : Hid (Kept Nil w w10) := (KG8.out.trans K9.out).trans k10
      apply_assumption
      exact txT10 w w10 n m rc pc lc ro po la rs ps _ _ _ HS HO10 HK10 HP Hm HM9 HL HR Hn HN _ _ _ _ _ _ _ _ _ _ _ _ _ _ _ _ _ _ _ _ _ _ _ _ _ _ _ _ _ _ _ _ _ _ _ _ _ _ _ _ _ _ _ _ _ _ _ _ _ _ _ _ _ _ _ _ _ _ _ _ _ _ _ _ _ _ _ _ _ _ _ _ _ _ _ _ _ _ _ _ _ _ _ _ _ _ _ _ _ _ _ _ _ _ _ _ _ _ _ _ _ _ _ _ _ _ _ _ _ _ _ _ _ _ _ _ _ _ _ _ _ _ _ _ _ _ _ _ _ _ _ _ _ _ _ _ _ _ _ _ _ _ _ _ _ _ _ _ _ _ _ _ _ _
  · have K9 : Hid (Kept Nil w8 w9) := k9
    have HX9 : Hid (NewGood id ps ∧ qs.Perm ps ∧ RiseT qs ∧ TxAt w9 bx (newTx id.toNat qs) ax none cx 0 ∧ OwnT w8.heap.size w9 ax cx qs ∧ w8.heap.size ≤ bx) := ⟨hgood, hperm, hrise, htx, hox, hbx⟩
    have D9 := DN w9 (KG8.out.trans k9)
    clear k9 NE DN hgood hperm hrise htx hox hbx
    go_upto_region 9 with fail
    go_cut [14, 15] from 56 to 61 (fun a b wc => Hid (∃ bY ay cy, a = .pointer (some ⟨bY, 0, none⟩) ∧ b = .int .i64 0 ∧ TdAt wc bY (newTx id.toNat qs) ⟨Hd.no, 0, false⟩ ay none cy 0 ∧ OwnT w9.heap.size wc ay cy qs ∧ w9.heap.size ≤ bY ∧ Kept Nil w9 wc))
    case first =>
      go_wp2_with fail
      go_fit D9
      rintro _ w10 h10
      rcases h10 with ⟨hb, _⟩ | ⟨_, qs2, bY, ay, cy, hp2, hr2, rfl, htd, hoy, hbY, k10⟩
      · exact absurd HX9.out.1 hb
      · have HD : Hid (TdAt w10 bY (newTx id.toNat qs) ⟨Hd.no, 0, false⟩ ay none cy 0 ∧ OwnT w9.heap.size w10 ay cy qs ∧ w9.heap.size ≤ bY ∧ Kept Nil w9 w10) := by
          rw [rise_eq HX9.out.2.2.1 hr2 HX9.out.2.1 hp2]
          exact ⟨htd, hoy, hbY, k10⟩
        clear htd hoy hbY k10 hp2 hr2
        go_wp2
        go_meet
        exact ⟨bY, ay, cy, rfl, rfl, HD.out⟩
    case rest =>
      obtain ⟨bY, ay, cy, e14, e15, htd, hoy, hbY, k10⟩ := hcut.out
      subst e14 e15
      rename World => w10
      obtain ⟨hgood, hperm, hrise, htx, hox, hbx⟩ := HX9.out
      have hsz : w.heap.size ≤ w8.heap.size := KG8.out.size
      have hsz9 : w8.heap.size ≤ w9.heap.size := K9.out.size
      have hmono : ∀ {B B' : Nat} {Y : World} {ao : Option Addr} {c : Nat} {l : List Pt}, OwnT B Y ao c l → B' ≤ B → OwnT B' Y ao c l := fun {B B' Y ao c l} h hb => by
        refine ⟨h.1, h.2.imp (fun x => x) ?_⟩
        rintro ⟨g, cap, cur, h1, h2, h3⟩
        exact ⟨g, cap, cur, h1, Nat.le_trans hb h2, h3⟩
      have HS : Hid (Said w.heap.size w10 la (.pointer (some ⟨bx, 0, none⟩)) (.pointer (some ⟨bY, 0, none⟩)) (.int .i64 0)) := .inr ⟨bx, bY, newTx id.toNat qs, ⟨Hd.no, 0, false⟩, ax, cx, ay, cy, none, 0, none, 0, rfl, rfl, rfl,
        ⟨htx.kept k10, hmono (hox.keptX k10 (fun _ _ _ x => x)) (by omega), World.ownsRow_nil _ _ _ _, htd, hmono hoy (by omega), World.ownsRow_nil _ _ _ _, fun a b ha => (by cases ha), Sim.free (newTx_ok hgood hperm).sn (.inl rfl), newTx_ok hgood hperm⟩, by omega, by omega,
        fun a b ha hb => (by have h1 := HLB.out a ha; have h2 := (hox.lt b hb).1; omega), fun a b ha hb => (by have h1 := HLB.out a ha; have h2 := (hoy.lt b hb).1; omega)⟩
      have HO10 : Hid (OwnT w.heap.size w10 la lc ps) := (HO8.out.keptX K9.out (fun _ _ _ x => x)).keptX k10 (fun _ _ _ x => x)
      have HK10 : Hid (Kept Nil w w10) := (KG8.out.trans K9.out).trans k10
      apply_assumption
      exact txT10 w w10 n m rc pc lc ro po la rs ps _ _ _ HS HO10 HK10 HP Hm HM9 HL HR Hn HN _ _ _ _ _ _ _ _ _ _ _ _ _ _ _ _ _ _ _ _ _ _ _ _ _ _ _ _ _ _ _ _ _ _ _ _ _ _ _ _ _ _ _ _ _ _ _ _ _ _ _ _ _ _ _ _ _ _ _ _ _ _ _ _ _ _ _ _ _ _ _ _ _ _ _ _ _ _ _ _ _ _ _ _ _ _ _ _ _ _ _ _ _ _ _ _ _ _ _ _ _ _ _ _ _ _ _ _ _ _ _ _ _ _ _ _ _ _ _ _ _ _ _ _ _ _ _ _ _ _ _ _ _ _ _ _ _ _ _ _ _ _ _ _ _ _ _ _ _ _ _ _ _ _
end Go.Proofs.YtflnjlbafchnaaaGreatDoor

/-
  TxnExact: the parts that are handed in.
-/
namespace Go.Proofs.YtflnjlbafchnaaaGreatDoor
open Go.ChangeShapes Go.WideShapes Go.ChangeAt Go.RowKit
open Go.ChangeMaps (open_string shut_string)

theorem Tryz.cellsPtX : Tryz.prog.cellsOf 29 = 2 := by kernel_rfl
section
variable {H : Type} {enc : TypeId × Value → H} {W : World} {fuel : Nat} {v : Value} {y : DataW H × List MemPlace}
set_option maxRecDepth 100000 in
theorem partsB (hf : DataW.trod enc Tryz.prog W 0 (fun _ => true) true fuel 22 [v] = some y) (hb : Rows.uptoBulk y.1 ≤ 1048576) :
    ∃ (ao : Option Addr) (ps : List Pt) (cap : Nat), v = .slice ao ps.length cap ∧ PtRow W.heap.size W ao ps ∧ ps.length ≤ 1048576 ∧ ∀ p ∈ ps, p.k.length ≤ 1048576 := by
  rcases Go.Deep.open_slice Tryz.underlying22 hf with ⟨h1, _⟩ | ⟨a, len, cap, m, n, D, Pl, h1, _, hl, hm, hmm, hy, hx⟩
  · simp at h1
    subst h1
    exact ⟨none, [], 0, rfl, fun j hj => by simp at hj, by simp, fun p hp => by cases hp⟩
  · simp at h1
    subst h1
    simp only [if_true] at hmm
    have hb2 : Rows.uptoBulkAll ((List.range len).map D) ≤ 1048576 := by
      rw [hy] at hb
      simp only [Rows.uptoBulk] at hb
      omega
    have hbD : ∀ j, j < len → Rows.uptoBulk (D j) ≤ 1048576 := fun j hj => Nat.le_trans (bulk_mem (List.mem_map_of_mem (List.mem_range.2 hj))) hb2
    have hbl : len ≤ 1048576 := by
      have := bulk_all ((List.range len).map D)
      simp at this
      omega
    obtain ⟨f, hF⟩ := Go.Deep.choose_lt (α := Pt) (n := len) (p := fun j p => a.block < W.heap.size ∧ W.cell? (a.add (j * 2)) = some (.string (bs p.k)) ∧ W.cell? ⟨(a.add (j * 2)).block, (a.add (j * 2)).off + 1, none⟩ = some (.int .i64 p.a) ∧ p.k.length ≤ 1048576) (fun j hj => by
      obtain ⟨cs, h1, h2⟩ := hx j (by omega)
      rw [Tryz.cellsPtX] at h1
      obtain ⟨_, hlen, hc⟩ := World.cells?_some h1
      obtain ⟨c0, c1, rfl⟩ := list2X hlen
      have hbj := hbD j hj
      obtain ⟨ys, n', _, hD, _, hyl, hg⟩ := DataW.trod_struct Tryz.underlying29 h2
      obtain ⟨y0, y1, rfl⟩ := list2X hyl
      have g0 := hg 0 _ rfl
      have g1 := hg 1 _ rfl
      simp [Tryz.cellsIntE, Tryz.cellsStrE] at g0 g1
      obtain ⟨s0, e0, d0, k0⟩ := DataW.trod_string Tryz.underlying9 g0
      obtain ⟨z, e1, _, _⟩ := DataW.trod_int Tryz.underlying3 g1
      simp at e0 e1
      subst e0 e1
      have q0 := hc 0 (by omega)
      have q1 := hc 1 (by omega)
      rw [add_zero] at q0
      rw [add_pos _ (by omega)] at q1
      have e : (a.add (j * 2)).block = a.block := by unfold Addr.add; split <;> rfl
      have hb := World.block_lt_of_cell? W _ q0
      have hks : s0.data.toList.length ≤ 1048576 := by
        have hDj : D j = .agg [y0.1, y1.1] := congrArg Prod.fst hD
        rw [hDj] at hbj
        simp only [Rows.uptoBulk, Rows.uptoBulkAll] at hbj
        have hd := congrArg Prod.fst d0
        simp only at hd
        rw [hd] at hbj
        simp only [Rows.uptoBulk] at hbj
        omega
      exact ⟨⟨s0.data.toList, z⟩, by omega, by rw [bs_self]; exact q0, q1, hks⟩)
    have hlen : ((List.range len).map f).length = len := by simp
    refine ⟨some a, (List.range len).map f, cap, by rw [hlen], ?_, by rw [hlen]; exact hbl, fun p hp => ?_⟩
    · intro j hj
      rw [hlen] at hj
      obtain ⟨h0, h1, h2, _⟩ := hF j hj
      simp only [List.getElem_map, List.getElem_range]
      exact ⟨a, rfl, h0, h1, h2⟩
    · obtain ⟨j, hj, rfl⟩ := List.mem_map.1 hp
      exact (hF j (List.mem_range.1 hj)).2.2.2
end
end Go.Proofs.YtflnjlbafchnaaaGreatDoor
