/-
  Joined: WTzc.
-/
import Derived.Test.YtflnjlbafchnaaaGreatDoorR24
import Derived.Deep.RegionHeld3
import Derived.BigQuiet
import Derived.Deep.DeepCutAuto
import Derived.Deep.DeepFit
/-
  TxnExact: the loop.
-/
namespace Go.Proofs.YtflnjlbafchnaaaGreatDoor
open Go.RowKit

def headIsT (n : Nat) : Code → Bool
  | .region k _ _ => k == n
  | .seq a _ => headIsT n a
  | .block _ c => headIsT n c
  | .loop c => headIsT n c
  | _ => false
/-- From the statement on that begins with a region. -/
def findTailT (n : Nat) : Code → Option Code
  | .seq a b => if headIsT n a then some (.seq a b) else match findTailT n a with
    | some c => some c
    | none => findTailT n b
  | .block _ c => findTailT n c
  | .loop c => findTailT n c
  | .cond _ a b => match findTailT n a with
    | some c => some c
    | none => findTailT n b
  | _ => none
noncomputable def tT20 : Code := (Tryz.f3.body.bind (findTailT 20)).getD .skip
set_option maxRecDepth 1000000 in
set_option maxHeartbeats 40000000 in
theorem txT20 (w X : World) (bx bY n rc : Nat) (ro ax ay : Option Addr) (rs : List Re) (cx cy : Nat) (t0 : Tx) (D0 : Dx) (oo0 oq0 : Option Addr) (oc0 qc0 : Nat)
    (HT0 : Hid (BT w.heap.size X bx bY t0 D0 ax cx ay cy oo0 oc0 oq0 qc0)) (HK0 : Hid (Kept Nil w X))
    (HBB : Hid (w.heap.size ≤ bx ∧ w.heap.size ≤ bY)) (HL : Hid (∀ Y, Kept Nil w Y → LD Y)) (HR : Hid (ReRow w.heap.size w ro rs)) (Hn : Hid (n = rs.length)) (HN : Hid ((n : Int) ≤ 4611686018427387904)) (fv0 fv1 fv3 fv4 fv5 fv6 fv7 fv8 fv9 fv10 fv11 fv13 fv15 fv16 fv17 fv18 fv19 fv20 fv21 fv22 fv23 fv24 fv25 fv26 fv27 fv28 fv29 fv30 fv31 fv32 fv33 fv34 fv35 fv36 fv37 fv38 fv39 fv40 fv41 fv42 fv43 fv44 fv45 fv46 fv47 fv48 fv49 fv50 fv51 fv52 fv53 fv54 fv55 fv56 fv57 fv58 fv59 fv60 fv61 fv62 fv63 fv64 fv65 fv66 fv67 fv68 fv69 fv70 fv71 fv72 fv73 fv74 fv75 fv76 fv77 fv78 fv79 fv80 fv81 fv82 fv83 fv84 fv85 fv86 fv87 fv88 fv89 fv90 fv91 fv92 fv93 fv94 fv95 fv96 fv97 fv98 fv99 fv100 fv101 fv102 fv103 fv104 fv105 fv106 fv107 fv108 fv109 fv110 fv111 fv112 fv113 fv114 fv115 fv116 fv117 fv118 fv119 fv120 fv121 fv122 fv123 fv124 fv125 fv126 fv127 fv128 fv129 fv130 fv131 fv132 fv133 fv134 fv135 fv136 fv137 fv138 fv139 fv140 fv141 fv142 fv143 fv144 fv145 fv146 fv147 fv148 fv149 fv150 fv151 fv152 fv153 fv154 fv155 fv156 fv157 fv158 fv159 fv160 : Value) :
    Code.wp Tryz.prog tT20 (bodyPost Tryz.prog Tryz.f3 (fun e w' => e = .returned (.bool true) ∧ Kept Nil w w')) ⟨#[fv0, fv1, .slice ro n rc, fv3, fv4, fv5, fv6, fv7, fv8, fv9, fv10, fv11, .pointer (some ⟨bx, 0, none⟩), fv13, .pointer (some ⟨bY, 0, none⟩), fv15, fv16, fv17, fv18, fv19, fv20, fv21, fv22, fv23, fv24, fv25, fv26, fv27, fv28, fv29, fv30, fv31, fv32, fv33, fv34, fv35, fv36, fv37, fv38, fv39, fv40, fv41, fv42, fv43, fv44, fv45, fv46, fv47, fv48, fv49, fv50, fv51, fv52, fv53, fv54, fv55, fv56, fv57, fv58, fv59, fv60, fv61, fv62, fv63, fv64, fv65, fv66, fv67, fv68, fv69, fv70, fv71, fv72, fv73, fv74, fv75, fv76, fv77, fv78, fv79, fv80, fv81, fv82, fv83, fv84, fv85, fv86, fv87, fv88, fv89, fv90, fv91, fv92, fv93, fv94, fv95, fv96, fv97, fv98, fv99, fv100, fv101, fv102, fv103, fv104, fv105, fv106, fv107, fv108, fv109, fv110, fv111, fv112, fv113, fv114, fv115, fv116, fv117, fv118, fv119, fv120, fv121, fv122, fv123, fv124, fv125, fv126, fv127, fv128, fv129, fv130, fv131, fv132, fv133, fv134, fv135, fv136, fv137, fv138, fv139, fv140, fv141, fv142, fv143, fv144, fv145, fv146, fv147, fv148, fv149, fv150, fv151, fv152, fv153, fv154, fv155, fv156, fv157, fv158, fv159, fv160], []⟩ X := by
  conv => arg 2; whnf
  dsimp only
  have hn9 : (n : Int) ≤ 4611686018427387904 := HN.out
  go_wp2_with fail
  go_loopw [6, 17] (fun _ u wr => ∃ (i : Nat) (t : Tx) (D : Dx) (oo : Option Addr) (oc : Nat) (oq : Option Addr) (qc : Nat), i ≤ n + 1 ∧ u = .int .i64 i ∧ Hid (BT w.heap.size wr bx bY t D ax cx ay cy oo oc oq qc) ∧ Hid (Kept Nil w wr)) (fun _ u _ => n + 1 - (intOf u).toNat)
  case atStart => exact ⟨0, t0, D0, oo0, oc0, oq0, qc0, by omega, rfl, HT0.out, HK0.out⟩
  case round =>
    clear HT0 HK0
    obtain ⟨i, t, D, oo, oc, oq, qc, hin, rfl, HT, HK⟩ := hrel
    obtain ⟨wo, hwo⟩ : ∃ x : World, x = wr := ⟨_, rfl⟩
    rw [← hwo] at HT HK ⊢
    clear hwo
    by_cases hle : i ≤ n
    · have hli : (i : Int) ≤ n := by omega
      have hld : decide ((i : Int) ≤ (n : Int)) = true := decide_eq_true hli
      have NX := next_any wo bx t ax oo cx oc HT.out.tx w.heap.size HT.out.px HT.out.ok (HL.out wo HK.out)
      have CM := fun (Y : World) (hY : Kept Nil wo Y) => dcmd_any Y bY t D ay oq cy qc (HT.out.kept hY).td (HT.out.kept hY).py.row HT.out.sm HT.out.ok
      obtain ⟨nx, Hnx⟩ : ∃ z, Hid (z = t.next) := ⟨_, rfl⟩
      rw [← Hnx.out] at NX
      simp only [← Hnx.out] at CM
      obtain ⟨⟨ckd, ck, cv, cm⟩, fl⟩ := nx
      unfold NxPost cdV at NX CM
      simp only at NX CM
      clear Hnx
      go_wp2_with fail
      go_fit NX
      rintro _ w1 ⟨rfl, k1⟩
      obtain ⟨W1, hW1⟩ : ∃ Y, Y = w1.alloc (.cells #[.int .i64 ckd, .string (bs ck), .string (bs cv), .int .i64 cm] 31) := ⟨_, rfl⟩
      obtain ⟨A1, HA1e⟩ : ∃ A, Hid (A = w1.heap.size) := ⟨_, rfl⟩
      have HA1 : Hid (W1.heap[A1]? = some (.cells #[.int .i64 ckd, .string (bs ck), .string (bs cv), .int .i64 cm] 31 (0, 0))) := by rw [hW1, HA1e.out]; exact blk_new _ _
      have KW1 : Hid (Kept Nil w1 W1) := by rw [hW1]; exact (Kept.refl _ _).alloc _
      have K1W : Hid (Kept Nil wo W1) := Kept.trans k1 KW1.out
      go_upto_region 24 with fail
      rw [← hW1, ← HA1e.out]
      clear hW1 HA1e NX k1 KW1
      have CM1 := CM W1 K1W.out
      go_wp2_with fail
      go_fit CM1
      rintro _ w2 ⟨rfl, k2⟩
      obtain ⟨W2, hW2⟩ : ∃ Y, Y = w2.alloc (.cells #[.int .i64 ckd, .string (bs ck), .string (bs cv), .int .i64 cm] 31) := ⟨_, rfl⟩
      obtain ⟨A2, HA2e⟩ : ∃ A, Hid (A = w2.heap.size) := ⟨_, rfl⟩
      have HA2 : Hid (W2.heap[A2]? = some (.cells #[.int .i64 ckd, .string (bs ck), .string (bs cv), .int .i64 cm] 31 (0, 0))) := by rw [hW2, HA2e.out]; exact blk_new _ _
      have KW2 : Hid (Kept Nil w2 W2) := by rw [hW2]; exact (Kept.refl _ _).alloc _
      have K2W : Hid (Kept Nil W1 W2) := Kept.trans k2 KW2.out
      go_upto_region 25 with fail
      rw [← hW2, ← HA2e.out]
      clear hW2 HA2e CM1 CM k2 KW2
      have LK := look_any W2 bx t ax oo cx oc (HT.out.kept (K1W.out.trans K2W.out)).tx w.heap.size (HT.out.kept (K1W.out.trans K2W.out)).ox (by have := HT.out.ok.old; omega)
      unfold LkPost at LK
      go_wp2_with fail
      go_fit LK
      rintro _ w3 ⟨lo, lc, rfl, hlo, k3⟩
      obtain ⟨W3, hW3⟩ : ∃ Y, Y = w3.alloc (.cells #[.int .i64 t.st, .slice lo t.old.length lc] 39) := ⟨_, rfl⟩
      obtain ⟨A3, HA3e⟩ : ∃ A, Hid (A = w3.heap.size) := ⟨_, rfl⟩
      have HA3 : Hid (W3.heap[A3]? = some (.cells #[.int .i64 t.st, .slice lo t.old.length lc] 39 (0, 0))) := by rw [hW3, HA3e.out]; exact blk_new _ _
      have KW3 : Hid (Kept Nil w3 W3) := by rw [hW3]; exact (Kept.refl _ _).alloc _
      have K3W : Hid (Kept Nil W2 W3) := Kept.trans k3 KW3.out
      have HLO : Hid (OwnI W2.heap.size W3 lo lc t.old) := OwnI.kept hlo KW3.out
      go_upto_region 26 with fail
      rw [← hW3, ← HA3e.out]
      clear hW3 HA3e LK k3 KW3 hlo
      have HB3 : Hid (BT w.heap.size W3 bx bY t D ax cx ay cy oo oc oq qc) := HT.out.kept ((K1W.out.trans K2W.out).trans K3W.out)
      have SS : ∀ Y, Kept Nil W3 Y → Y.cell? ⟨A3, 1, none⟩ = some (.slice lo t.old.length lc) ∧ Y.cell? ⟨bY, 4, none⟩ = some (.slice oq t.old.length qc) := fun Y kY => ⟨blk_at (kY.block _ _ HA3.out (fun x => x)) 1 rfl, blk_at (HB3.out.kept kY).td 4 rfl⟩
      have SI := fun (Y : World) (kY : Kept Nil W3 Y) => docInts_any _ _ lc qc lo oq t.old t.old Y (HLO.out.kept kY).int (HB3.out.kept kY).oy.int (by have := HT.out.ok.old; omega) (by have := HT.out.ok.old; omega)
      have hdt : decide (t.old = t.old) = true := decide_eq_true rfl
      rw [hdt] at SI
      have s0 := SS W3 (Kept.refl _ _)
      have sd := SS W3.drew (Kept.refl _ _).drew
      have z1 := s0.1
      have z4 := s0.2
      go_region_held3 (fun w' => w'.cell? ⟨A3, 1, none⟩ = some (.slice lo t.old.length lc) ∧ w'.cell? ⟨bY, 4, none⟩ = some (.slice oq t.old.length qc)) (first | (with_reducible assumption) | (refine SS _ ?_; repeat (first | (with_reducible exact Ka.out) | (with_reducible exact Kept.refl _ _) | (with_reducible refine Kept.drew ?_)))) (first | (go_at_call 15; go_must (go_fit (SI _ (by repeat (first | exact Kept.refl _ _ | refine Kept.drew ?_)))); rintro _ w5 ⟨rfl, ka⟩; have Ka : Hid (Kept Nil W3 w5) := Kept.trans (by repeat (first | exact Kept.refl _ _ | refine Kept.drew ?_)) ka; have sa := SS w5 Ka.out; clear ka))
      have HA35 : Hid (w5.heap[A3]? = some (.cells #[.int .i64 t.st, .slice lo t.old.length lc] 39 (0, 0))) := Ka.out.block _ _ HA3.out (fun x => x)
      have K25 : Hid (Kept Nil W2 w5) := K3W.out.trans Ka.out
      have OV := overInts_any W2.heap.size lc lo t.old w5 (HLO.out.kept Ka.out) K25.out.size (by have := HT.out.ok.old; omega)
      have a1 : w5.cell? ⟨A3, 1, none⟩ = some (.slice lo t.old.length lc) := blk_at HA35.out 1 rfl
      clear s0 sd sa z1 z4 SI
      go_wp2_with fail
      go_fit OV
      rintro _ w6 ⟨rfl, kg⟩
      have HLK : Hid (∀ k, (Value.slice lo t.old.length lc).ownBlock = some k → W2.heap.size ≤ k ∧ ∃ cur fr, w5.heap[k]? = some (.cells cur 3 fr)) := fun k e => by
        obtain ⟨x, hx, rfl⟩ := own_slice.1 e
        exact (HLO.out.kept Ka.out).lt x hx
      have K26 : Hid (Kept Nil W2 w6) := K25.out.grown kg (fun k e => (HLK.out k e).1)
      have HA36 : Hid (w6.heap[A3]? = some (.cells #[.int .i64 t.st, .slice lo t.old.length lc] 39 (0, 0))) := by
        show _ = _
        rw [kg.block A3 (lt_of_block HA35.out) (fun e => by
          obtain ⟨_, cur, fr, h2⟩ := HLK.out A3 e.symm
          exact ne_ty h2 HA35.out (by decide) rfl)]
        exact HA35.out
      clear OV kg a1 HLK HA35 K25 HLO SS Ka hdt
      have KO6 : Hid (Kept Nil wo w6) := (K1W.out.trans K2W.out).trans K26.out
      have HQ1 : Hid (w6.heap[A1]? = some (.cells #[.int .i64 ckd, .string (bs ck), .string (bs cv), .int .i64 cm] 31 (0, 0))) := (K2W.out.trans K26.out).block _ _ HA1.out (fun x => x)
      have HQ2 : Hid (w6.heap[A2]? = some (.cells #[.int .i64 ckd, .string (bs ck), .string (bs cv), .int .i64 cm] 31 (0, 0))) := K26.out.block _ _ HA2.out (fun x => x)
      have HT6 : Hid (BT w.heap.size w6 bx bY t D ax cx ay cy oo oc oq qc) := HT.out.kept KO6.out
      have KW6 : Hid (Kept Nil w w6) := HK.out.trans KO6.out
      clear HA1 HA2 HA3 HB3 K1W K2W K3W K26 KO6
      have a0 : w6.cell? ⟨A3, 0, none⟩ = some (.int .i64 t.st) := blk_at HA36.out 0 rfl
      have c0 : w6.cell? ⟨A1, 0, none⟩ = some (.int .i64 ckd) := blk_at HQ1.out 0 rfl
      have c1 : w6.cell? ⟨A1, 1, none⟩ = some (.string (bs ck)) := blk_at HQ1.out 1 rfl
      have c2 : w6.cell? ⟨A1, 2, none⟩ = some (.string (bs cv)) := blk_at HQ1.out 2 rfl
      have c3 : w6.cell? ⟨A1, 3, none⟩ = some (.int .i64 cm) := blk_at HQ1.out 3 rfl
      have d0 : w6.cell? ⟨A2, 0, none⟩ = some (.int .i64 ckd) := blk_at HQ2.out 0 rfl
      have d1 : w6.cell? ⟨A2, 1, none⟩ = some (.string (bs ck)) := blk_at HQ2.out 1 rfl
      have d2 : w6.cell? ⟨A2, 2, none⟩ = some (.string (bs cv)) := blk_at HQ2.out 2 rfl
      have d3 : w6.cell? ⟨A2, 3, none⟩ = some (.int .i64 cm) := blk_at HQ2.out 3 rfl
      have b10 : w6.cell? ⟨bY, 10, none⟩ = some (.int .i64 t.st) := blk_at HT6.out.td 10 rfl
      cases fl with
      | true =>
        go_wp2_with fail
        go_quiet (fail)
        obtain ⟨W7, hW7⟩ : ∃ Y, Y = w6.drewN nq := ⟨_, rfl⟩
        have HT7 : Hid (BT w.heap.size W7 bx bY t D ax cx ay cy oo oc oq qc) := by rw [hW7]; exact HT6.out.kept ((Kept.refl _ _).drewN _)
        have KW7 : Hid (Kept Nil w W7) := by rw [hW7]; exact KW6.out.drewN _
        rw [← hW7]
        clear hW7 a0 b10 c0 c1 c2 c3 d0 d1 d2 d3 HQ1 HQ2 HA36 HT6 KW6
        by_cases hlt : i < n
        · have hl1 : (i : Int) < n := by omega
          have hl2 : decide ((i : Int) < (n : Int)) = true := decide_eq_true hl1
          have hil : i < rs.length := by rw [← Hn.out]; exact hlt
          obtain ⟨a, ha, -, -, -, -, -, -, hv, -⟩ := (HR.out.nil KW7.out) i hil
          subst ha
          obtain ⟨y, HYe⟩ : ∃ y : Re, Hid (y = rs[i]) := ⟨rs[i], (rfl : rs[i] = rs[i])⟩
          rw [← HYe.out] at hv
          have HRow : Hid (∀ Y, Kept Nil w Y → Y.cell? (a.add (i * 4)) = some (.int .i64 y.r.kd) ∧ Y.cell? ⟨(a.add (i * 4)).block, (a.add (i * 4)).off + 1, none⟩ = some (.string (bs y.r.v)) ∧ Y.cell? ⟨(a.add (i * 4)).block, (a.add (i * 4)).off + 2, none⟩ = some (.int .i64 y.r.n) ∧ Y.cell? ⟨(a.add (i * 4)).block, (a.add (i * 4)).off + 3, none⟩ = some (.slice y.ko y.r.ks.length y.kc)) := fun Y kY => by
            obtain ⟨a', ha', _, g0, g1, g2, g3, _⟩ := (HR.out.nil kY) i hil
            obtain rfl := Option.some.inj ha'
            rw [HYe.out]
            exact ⟨g0, g1, g2, g3⟩
          have HV9 : Hid (y.r.v.length ≤ 1048576) := hv
          clear hv HYe hil
          have c0 := (HRow.out W7 KW7.out).1
          have c1 := (HRow.out W7 KW7.out).2.1
          have c2 := (HRow.out W7 KW7.out).2.2.1
          have c3 := (HRow.out W7 KW7.out).2.2.2
          have AN := answer_any W7 bx t ax oo cx oc HT7.out.tx w.heap.size HT7.out.px HT7.out.ox KW7.out.size HT7.out.ok (HL.out W7 KW7.out) y.r y.ko y.kc HV9.out
          unfold rrV at AN
          go_wp2_with fail
          go_fit AN
          intro e1 x1 p1
          have he := p1.1
          subst he
          have HP1 : Hid (TxPost w.heap.size W7 bx (t.answer y.r) ax oo cx (.returned (.tuple #[])) x1) := p1
          clear AN c0 c1 c2 c3 p1
          have HM : Hid (TdAt x1 bY t D ay oq cy qc ∧ OwnI w.heap.size x1 oq qc t.old ∧ OwnT w.heap.size x1 ay cy t.ps ∧ (∀ a, ay = some a → a.block ≠ bY) ∧ Kept Nil w x1) := by
            obtain ⟨m1, m2, m3, m4, m5, m6⟩ := HT7.out.mid HP1.out
            exact ⟨m1, m2, m3, m5, m6 w KW7.out HBB.out.1 (Nat.le_refl _)⟩
          have c0 := (HRow.out x1 HM.out.2.2.2.2).1
          have c1 := (HRow.out x1 HM.out.2.2.2.2).2.1
          have c2 := (HRow.out x1 HM.out.2.2.2.2).2.2.1
          have c3 := (HRow.out x1 HM.out.2.2.2.2).2.2.2
          have DN := danswer_any x1 bY t D ay oq cy qc HM.out.1 w.heap.size HM.out.2.1 HM.out.2.2.2.2.size HT7.out.ok HT7.out.sm HM.out.2.2.1.row HM.out.2.2.2.1 y.r y.ko y.kc HV9.out
          unfold rrV at DN
          go_wp2_with fail
          go_fit DN
          intro e2 x2 p2
          obtain ⟨he, ⟨oo', oc', oq', qc', hb⟩, hk⟩ := HT7.out.both HP1.out p2
          subst he
          have HT8 : Hid (BT w.heap.size x2 bx bY (t.answer y.r) (D.ans t y.r) ax cx ay cy oo' oc' oq' qc') := hb
          have KW8 : Hid (Kept Nil w x2) := hk w KW7.out HBB.out.1 HBB.out.2 (Nat.le_refl _)
          clear DN c0 c1 c2 c3 p2 hb hk HM HP1
          go_wp2
          go_roundw
          case rel => exact ⟨i + 1, t.answer y.r, D.ans t y.r, oo', oc', oq', qc', by omega, by go_num, HT8.out, KW8.out⟩
          case measure => simp [intOf]; omega
        · have hl1 : ¬ (i : Int) < n := by omega
          have hl2 : decide ((i : Int) < (n : Int)) = false := decide_eq_false hl1
          go_wp2
          go_roundw
          case rel => exact ⟨i + 1, t, D, oo, oc, oq, qc, by omega, by go_num, HT7.out, KW7.out⟩
          case measure => simp [intOf]; omega
      | false =>
        go_wp2_with fail
        go_quiet (fail)
        obtain ⟨W7, hW7⟩ : ∃ Y, Y = w6.drewN nq := ⟨_, rfl⟩
        have HT7 : Hid (BT w.heap.size W7 bx bY t D ax cx ay cy oo oc oq qc) := by rw [hW7]; exact HT6.out.kept ((Kept.refl _ _).drewN _)
        have KW7 : Hid (Kept Nil w W7) := by rw [hW7]; exact KW6.out.drewN _
        rw [← hW7]
        clear hW7 a0 b10 c0 c1 c2 c3 d0 d1 d2 d3 HQ1 HQ2 HA36 HT6 KW6
        by_cases hlt : i < n
        · have hl1 : (i : Int) < n := by omega
          have hl2 : decide ((i : Int) < (n : Int)) = true := decide_eq_true hl1
          go_wp2
          go_roundw
          case rel => exact ⟨i + 1, t, D, oo, oc, oq, qc, by omega, by go_num, HT7.out, KW7.out⟩
          case measure => simp [intOf]; omega
        · have hl1 : ¬ (i : Int) < n := by omega
          have hl2 : decide ((i : Int) < (n : Int)) = false := decide_eq_false hl1
          go_wp2
          go_roundw
          case rel => exact ⟨i + 1, t, D, oo, oc, oq, qc, by omega, by go_num, HT7.out, KW7.out⟩
          case measure => simp [intOf]; omega
    · have hli : ¬ (i : Int) ≤ n := by omega
      have hld : decide ((i : Int) ≤ (n : Int)) = false := decide_eq_false hli
      go_wp2
      go_ret
      exact ⟨rfl, HK.out⟩
end Go.Proofs.YtflnjlbafchnaaaGreatDoor
