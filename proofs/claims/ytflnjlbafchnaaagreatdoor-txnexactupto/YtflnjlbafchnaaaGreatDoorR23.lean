/-
  Joined: WTz2.
-/
import Derived.Test.YtflnjlbafchnaaaGreatDoorR12
import Derived.Test.YtflnjlbafchnaaaGreatDoorR16
import Derived.Deep.RegionHeld3
/-
  TxnExact: the document's Command, by phases.
-/
namespace Go.Proofs.YtflnjlbafchnaaaGreatDoor
open Go.RowKit

def headIsD2 (n : Nat) : Code → Bool
  | .region k _ _ => k == n
  | .seq a _ => headIsD2 n a
  | .block _ c => headIsD2 n c
  | .loop c => headIsD2 n c
  | _ => false
/-- From the statement on that begins with a region. -/
def findTailD2 (n : Nat) : Code → Option Code
  | .seq a b => if headIsD2 n a then some (.seq a b) else match findTailD2 n a with
    | some c => some c
    | none => findTailD2 n b
  | .block _ c => findTailD2 n c
  | .loop c => findTailD2 n c
  | .cond _ a b => match findTailD2 n a with
    | some c => some c
    | none => findTailD2 n b
  | _ => none
noncomputable def dT7 : Code := (Tryz.f13.body.bind (findTailD2 7)).getD .skip
def CqAt (X : World) (R : Nat) (kd : Int) (k v : List UInt8) (m : Int) : Prop := X.heap[R]? = some (.cells #[.int .i64 kd, .string (bs k), .string (bs v), .int .i64 m] 31 (0, 0))
theorem CqAt.kept {X Y : World} {R : Nat} {kd m : Int} {k v : List UInt8} (h : CqAt X R kd k v m) (kx : Kept Nil X Y) : CqAt Y R kd k v m := kx.block _ _ h (fun x => x)
theorem CqAt.off {X : World} {R D : Nat} {kd m : Int} {k v : List UInt8} (h : CqAt X R kd k v m) (hD : R ≠ D) (i : Nat) (x : Value) : CqAt (X.setCell ⟨D, i, none⟩ x) R kd k v m := blk_other (a := ⟨D, i, none⟩) h hD _
theorem CqAt.all {X : World} {R : Nat} {kd m : Int} {k v : List UInt8} (h : CqAt X R kd k v m) (kd' : Int) (k' v' : List UInt8) (m' : Int) : CqAt ((((X.setCell ⟨R, 0, none⟩ (.int .i64 kd')).setCell ⟨R, 1, none⟩ (.string (bs k'))).setCell ⟨R, 2, none⟩ (.string (bs v'))).setCell ⟨R, 3, none⟩ (.int .i64 m')) R kd' k' v' m' := blk_set (blk_set (blk_set (blk_set h 0 _) 1 _) 2 _) 3 _
/-- What has been made ahead of the command. -/
structure DmIn (w X : World) (b R : Nat) (t : Tx) (D : Dx) (ap oo : Option Addr) (cp oc : Nat) (own oth key : List UInt8) (nn : Nat) : Prop where
  kp : Kept Nil w X
  td : TdAt X b t D ap oo cp oc
  cr : CqAt X R 0 [] [] 0
  wr : w.heap.size ≤ R
  br : b ≠ R
  pr : PtRow X.heap.size X ap t.ps
  eo : own = tKey t.id
  eh : oth = tKey D.sn.b
  ek : key = t.key
  en : nn = if D.d = true then D.sn.t else D.sn.n
  sm : Sim t D
  ok : t.Ok
theorem numT_h (n b z : Nat) : Tx.numT n b (z : Int) = hTx n b z := by unfold Tx.numT hTx; rw [itoa_nat]
set_option maxRecDepth 100000 in
set_option maxHeartbeats 4000000 in
theorem dmT0 (w X : World) (b R : Nat) (t : Tx) (D : Dx) (ap oo : Option Addr) (cp oc : Nat) (own oth key : List UInt8) (nn : Nat) (HI : Hid (DmIn w X b R t D ap oo cp oc own oth key nn)) (hp : t.ph = 0) (fv1 fv3 fv8 fv9 fv10 fv11 fv12 fv13 fv14 fv15 fv16 fv17 fv18 fv19 fv20 fv21 fv22 fv23 fv24 fv25 fv26 fv27 fv28 fv29 fv30 fv31 fv32 fv33 fv34 fv35 fv36 fv37 fv38 fv39 fv40 fv41 fv42 fv43 fv44 fv45 fv46 fv47 fv48 fv49 fv50 fv51 fv52 fv53 fv54 fv55 fv56 fv57 fv58 fv59 fv60 fv61 fv62 fv63 fv64 fv65 fv66 fv67 fv68 fv69 fv70 fv71 fv72 fv73 fv74 fv75 fv76 fv77 fv78 fv79 fv80 fv81 fv82 fv83 fv84 fv85 fv86 fv87 fv88 fv89 fv90 fv91 fv92 fv93 fv94 fv95 fv96 fv97 fv98 fv99 fv100 fv101 fv102 fv103 fv104 fv105 fv106 fv107 fv108 fv109 fv110 fv111 fv112 fv113 fv114 fv115 fv116 fv117 fv118 fv119 fv120 fv121 fv122 fv123 fv124 fv125 fv126 fv127 fv128 fv129 fv130 fv131 fv132 fv133 fv134 fv135 : Value) :
    Code.wp Tryz.prog dT7 (bodyPost Tryz.prog Tryz.f13 (NxPost w t.next)) ⟨#[.pointer (some ⟨b, 0, none⟩), fv1, .pointer (some ⟨R, 0, none⟩), fv3, .string (bs own), .string (bs oth), .string (bs key), .int .i64 nn, fv8, fv9, fv10, fv11, fv12, fv13, fv14, fv15, fv16, fv17, fv18, fv19, fv20, fv21, fv22, fv23, fv24, fv25, fv26, fv27, fv28, fv29, fv30, fv31, fv32, fv33, fv34, fv35, fv36, fv37, fv38, fv39, fv40, fv41, fv42, fv43, fv44, fv45, fv46, fv47, fv48, fv49, fv50, fv51, fv52, fv53, fv54, fv55, fv56, fv57, fv58, fv59, fv60, fv61, fv62, fv63, fv64, fv65, fv66, fv67, fv68, fv69, fv70, fv71, fv72, fv73, fv74, fv75, fv76, fv77, fv78, fv79, fv80, fv81, fv82, fv83, fv84, fv85, fv86, fv87, fv88, fv89, fv90, fv91, fv92, fv93, fv94, fv95, fv96, fv97, fv98, fv99, fv100, fv101, fv102, fv103, fv104, fv105, fv106, fv107, fv108, fv109, fv110, fv111, fv112, fv113, fv114, fv115, fv116, fv117, fv118, fv119, fv120, fv121, fv122, fv123, fv124, fv125, fv126, fv127, fv128, fv129, fv130, fv131, fv132, fv133, fv134, fv135], []⟩ X := by
  conv => arg 2; whnf
  dsimp only
  obtain ⟨X1, hX1⟩ : ∃ Y, Y = X.alloc (.cells #[.int .i64 4, .string (bs own), .string ⟨#[]⟩, .int .i64 0] 31) := ⟨_, rfl⟩
  obtain ⟨S, HSe⟩ : ∃ A, Hid (A = X.heap.size) := ⟨_, rfl⟩
  have HS : Hid (CqAt X1 S 4 own [] 0) := by rw [hX1, HSe.out]; exact blk_new _ _
  have KX1 : Hid (Kept Nil X X1) := by rw [hX1]; exact (Kept.refl _ _).alloc _
  have HT : Hid (TdAt X1 b t D ap oo cp oc) := HI.out.td.kept KX1.out
  have HR : Hid (CqAt X1 R 0 [] [] 0) := HI.out.cr.kept KX1.out
  have hRS : R ≠ S := by have h1 := lt_of_block HI.out.cr; have h2 := HSe.out; omega
  have hbS : b ≠ S := by have h1 := lt_of_block HI.out.td; have h2 := HSe.out; omega
  have hbR : b ≠ R := HI.out.br
  have hSR : S ≠ R := hRS.symm
  have hSb : S ≠ b := hbS.symm
  have hRb : R ≠ b := hbR.symm
  have HwS : Hid (w.heap.size ≤ S) := by show _ ≤ _; rw [HSe.out]; exact HI.out.kp.size
  have HK1 : Hid (Kept Nil w X1) := HI.out.kp.trans KX1.out
  go_upto_region 8 with fail
  rw [← hX1, ← HSe.out]
  clear hX1 HSe
  have q2 : X1.cell? ⟨b, 2, none⟩ = some (.string ⟨#[98, 101, 103, 105, 110]⟩) := by
    have e : X1.cell? ⟨b, 2, none⟩ = some (.string (bs (phW t.ph))) := blk_at HT.out 2 rfl
    rw [hp] at e
    exact e
  have hn : t.next = (swapC (tKey t.id) wOpen 0, true) := by unfold Tx.next; simp [hp]
  obtain ⟨Z, hZ⟩ : ∃ Z, Z = (X1.setCell ⟨S, 2, none⟩ (.string ⟨#[111, 112, 101, 110]⟩)) := ⟨_, rfl⟩
  have HZ : Hid (CqAt Z R 0 [] [] 0 ∧ CqAt Z S (4) (own) ([111, 112, 101, 110]) (0) ∧ Kept Nil w Z) := by rw [hZ]; exact ⟨(CqAt.off HR.out hRS 2 _), (blk_set HS.out 2 _), (HK1.out.setNew (p := ⟨S, 2, none⟩) HwS.out _)⟩
  have s0 : X1.cell? ⟨S, 0, none⟩ = some (.int .i64 4) := blk_at HS.out 0 rfl
  have s1 : X1.cell? ⟨S, 1, none⟩ = some (.string (bs own)) := blk_at HS.out 1 rfl
  have s2 : X1.cell? ⟨S, 2, none⟩ = some (.string ⟨#[]⟩) := blk_at HS.out 2 rfl
  have s3 : X1.cell? ⟨S, 3, none⟩ = some (.int .i64 0) := blk_at HS.out 3 rfl
  have sf0 : X1.frozen? ⟨S, 0, none⟩ = false := blk_free HS.out 0
  have sf1 : X1.frozen? ⟨S, 1, none⟩ = false := blk_free HS.out 1
  have sf2 : X1.frozen? ⟨S, 2, none⟩ = false := blk_free HS.out 2
  have sf3 : X1.frozen? ⟨S, 3, none⟩ = false := blk_free HS.out 3
  clear hp
  go_upto_region 32 with fail
  rw [← hZ]
  clear hZ s0 s1 s2 s3 sf0 sf1 sf2 sf3 q2
  obtain ⟨Y, hY⟩ : ∃ Y, Y = ((((Z.setCell ⟨R, 0, none⟩ (.int .i64 4)).setCell ⟨R, 1, none⟩ (.string (bs own))).setCell ⟨R, 2, none⟩ (.string ⟨#[111, 112, 101, 110]⟩)).setCell ⟨R, 3, none⟩ (.int .i64 0)) := ⟨_, rfl⟩
  have HY : Hid (CqAt Y R (4) (own) ([111, 112, 101, 110]) (0) ∧ Kept Nil w Y) := by rw [hY]; exact ⟨CqAt.all HZ.out.1 _ _ _ _, ((((HZ.out.2.2.setNew (p := ⟨R, 0, none⟩) HI.out.wr _).setNew (p := ⟨R, 1, none⟩) HI.out.wr _).setNew (p := ⟨R, 2, none⟩) HI.out.wr _).setNew (p := ⟨R, 3, none⟩) HI.out.wr _)⟩
  have r0 : Z.cell? ⟨R, 0, none⟩ = some (.int .i64 0) := blk_at HZ.out.1 0 rfl
  have r1 : Z.cell? ⟨R, 1, none⟩ = some (.string ⟨#[]⟩) := blk_at HZ.out.1 1 rfl
  have r2 : Z.cell? ⟨R, 2, none⟩ = some (.string ⟨#[]⟩) := blk_at HZ.out.1 2 rfl
  have r3 : Z.cell? ⟨R, 3, none⟩ = some (.int .i64 0) := blk_at HZ.out.1 3 rfl
  have rf0 : Z.frozen? ⟨R, 0, none⟩ = false := blk_free HZ.out.1 0
  have rf1 : Z.frozen? ⟨R, 1, none⟩ = false := blk_free HZ.out.1 1
  have rf2 : Z.frozen? ⟨R, 2, none⟩ = false := blk_free HZ.out.1 2
  have rf3 : Z.frozen? ⟨R, 3, none⟩ = false := blk_free HZ.out.1 3
  have s0 : Z.cell? ⟨S, 0, none⟩ = some (.int .i64 4) := blk_at HZ.out.2.1 0 rfl
  have s1 : Z.cell? ⟨S, 1, none⟩ = some (.string (bs own)) := blk_at HZ.out.2.1 1 rfl
  have s2 : Z.cell? ⟨S, 2, none⟩ = some (.string ⟨#[111, 112, 101, 110]⟩) := blk_at HZ.out.2.1 2 rfl
  have s3 : Z.cell? ⟨S, 3, none⟩ = some (.int .i64 0) := blk_at HZ.out.2.1 3 rfl
  go_wp2
  rw [← hY]
  have j0 : Y.cell? ⟨R, 0, none⟩ = some (.int .i64 4) := blk_at HY.out.1 0 rfl
  have j1 : Y.cell? ⟨R, 1, none⟩ = some (.string (bs own)) := blk_at HY.out.1 1 rfl
  have j2 : Y.cell? ⟨R, 2, none⟩ = some (.string ⟨#[111, 112, 101, 110]⟩) := blk_at HY.out.1 2 rfl
  have j3 : Y.cell? ⟨R, 3, none⟩ = some (.int .i64 0) := blk_at HY.out.1 3 rfl
  exact bodyPost_ret (v := .tuple #[.agg #[.int .i64 4, .string (bs own), .string ⟨#[111, 112, 101, 110]⟩, .int .i64 0], .bool true]) (by simp [results, Tryz.results13, go_sem, j0, j1, j2, j3]) rfl ⟨by rw [hn, HI.out.eo]; rfl, HY.out.2⟩
set_option maxRecDepth 100000 in
set_option maxHeartbeats 4000000 in
theorem dmT1 (w X : World) (b R : Nat) (t : Tx) (D : Dx) (ap oo : Option Addr) (cp oc : Nat) (own oth key : List UInt8) (nn : Nat) (HI : Hid (DmIn w X b R t D ap oo cp oc own oth key nn)) (hp : t.ph = 1) (fv1 fv3 fv8 fv9 fv10 fv11 fv12 fv13 fv14 fv15 fv16 fv17 fv18 fv19 fv20 fv21 fv22 fv23 fv24 fv25 fv26 fv27 fv28 fv29 fv30 fv31 fv32 fv33 fv34 fv35 fv36 fv37 fv38 fv39 fv40 fv41 fv42 fv43 fv44 fv45 fv46 fv47 fv48 fv49 fv50 fv51 fv52 fv53 fv54 fv55 fv56 fv57 fv58 fv59 fv60 fv61 fv62 fv63 fv64 fv65 fv66 fv67 fv68 fv69 fv70 fv71 fv72 fv73 fv74 fv75 fv76 fv77 fv78 fv79 fv80 fv81 fv82 fv83 fv84 fv85 fv86 fv87 fv88 fv89 fv90 fv91 fv92 fv93 fv94 fv95 fv96 fv97 fv98 fv99 fv100 fv101 fv102 fv103 fv104 fv105 fv106 fv107 fv108 fv109 fv110 fv111 fv112 fv113 fv114 fv115 fv116 fv117 fv118 fv119 fv120 fv121 fv122 fv123 fv124 fv125 fv126 fv127 fv128 fv129 fv130 fv131 fv132 fv133 fv134 fv135 : Value) :
    Code.wp Tryz.prog dT7 (bodyPost Tryz.prog Tryz.f13 (NxPost w t.next)) ⟨#[.pointer (some ⟨b, 0, none⟩), fv1, .pointer (some ⟨R, 0, none⟩), fv3, .string (bs own), .string (bs oth), .string (bs key), .int .i64 nn, fv8, fv9, fv10, fv11, fv12, fv13, fv14, fv15, fv16, fv17, fv18, fv19, fv20, fv21, fv22, fv23, fv24, fv25, fv26, fv27, fv28, fv29, fv30, fv31, fv32, fv33, fv34, fv35, fv36, fv37, fv38, fv39, fv40, fv41, fv42, fv43, fv44, fv45, fv46, fv47, fv48, fv49, fv50, fv51, fv52, fv53, fv54, fv55, fv56, fv57, fv58, fv59, fv60, fv61, fv62, fv63, fv64, fv65, fv66, fv67, fv68, fv69, fv70, fv71, fv72, fv73, fv74, fv75, fv76, fv77, fv78, fv79, fv80, fv81, fv82, fv83, fv84, fv85, fv86, fv87, fv88, fv89, fv90, fv91, fv92, fv93, fv94, fv95, fv96, fv97, fv98, fv99, fv100, fv101, fv102, fv103, fv104, fv105, fv106, fv107, fv108, fv109, fv110, fv111, fv112, fv113, fv114, fv115, fv116, fv117, fv118, fv119, fv120, fv121, fv122, fv123, fv124, fv125, fv126, fv127, fv128, fv129, fv130, fv131, fv132, fv133, fv134, fv135], []⟩ X := by
  conv => arg 2; whnf
  dsimp only
  obtain ⟨X1, hX1⟩ : ∃ Y, Y = X.alloc (.cells #[.int .i64 4, .string (bs own), .string ⟨#[]⟩, .int .i64 0] 31) := ⟨_, rfl⟩
  obtain ⟨S, HSe⟩ : ∃ A, Hid (A = X.heap.size) := ⟨_, rfl⟩
  have HS : Hid (CqAt X1 S 4 own [] 0) := by rw [hX1, HSe.out]; exact blk_new _ _
  have KX1 : Hid (Kept Nil X X1) := by rw [hX1]; exact (Kept.refl _ _).alloc _
  have HT : Hid (TdAt X1 b t D ap oo cp oc) := HI.out.td.kept KX1.out
  have HR : Hid (CqAt X1 R 0 [] [] 0) := HI.out.cr.kept KX1.out
  have hRS : R ≠ S := by have h1 := lt_of_block HI.out.cr; have h2 := HSe.out; omega
  have hbS : b ≠ S := by have h1 := lt_of_block HI.out.td; have h2 := HSe.out; omega
  have hbR : b ≠ R := HI.out.br
  have hSR : S ≠ R := hRS.symm
  have hSb : S ≠ b := hbS.symm
  have hRb : R ≠ b := hbR.symm
  have HwS : Hid (w.heap.size ≤ S) := by show _ ≤ _; rw [HSe.out]; exact HI.out.kp.size
  have HK1 : Hid (Kept Nil w X1) := HI.out.kp.trans KX1.out
  go_upto_region 8 with fail
  rw [← hX1, ← HSe.out]
  clear hX1 HSe
  have q2 : X1.cell? ⟨b, 2, none⟩ = some (.string ⟨#[108, 111, 111, 107]⟩) := by
    have e : X1.cell? ⟨b, 2, none⟩ = some (.string (bs (phW t.ph))) := blk_at HT.out 2 rfl
    rw [hp] at e
    exact e
  have hn : t.next = (getC t.key, true) := by unfold Tx.next; simp [hp]
  obtain ⟨Z, hZ⟩ : ∃ Z, Z = ((((X1.setCell ⟨S, 0, none⟩ (.int .i64 2)).setCell ⟨S, 1, none⟩ (.string (bs key))).setCell ⟨S, 2, none⟩ (.string ⟨#[]⟩)).setCell ⟨S, 3, none⟩ (.int .i64 0)) := ⟨_, rfl⟩
  have HZ : Hid (CqAt Z R 0 [] [] 0 ∧ CqAt Z S (2) (key) ([]) (0) ∧ Kept Nil w Z) := by rw [hZ]; exact ⟨(CqAt.off (CqAt.off (CqAt.off (CqAt.off HR.out hRS 0 _) hRS 1 _) hRS 2 _) hRS 3 _), (blk_set (blk_set (blk_set (blk_set HS.out 0 _) 1 _) 2 _) 3 _), ((((HK1.out.setNew (p := ⟨S, 0, none⟩) HwS.out _).setNew (p := ⟨S, 1, none⟩) HwS.out _).setNew (p := ⟨S, 2, none⟩) HwS.out _).setNew (p := ⟨S, 3, none⟩) HwS.out _)⟩
  have s0 : X1.cell? ⟨S, 0, none⟩ = some (.int .i64 4) := blk_at HS.out 0 rfl
  have s1 : X1.cell? ⟨S, 1, none⟩ = some (.string (bs own)) := blk_at HS.out 1 rfl
  have s2 : X1.cell? ⟨S, 2, none⟩ = some (.string ⟨#[]⟩) := blk_at HS.out 2 rfl
  have s3 : X1.cell? ⟨S, 3, none⟩ = some (.int .i64 0) := blk_at HS.out 3 rfl
  have sf0 : X1.frozen? ⟨S, 0, none⟩ = false := blk_free HS.out 0
  have sf1 : X1.frozen? ⟨S, 1, none⟩ = false := blk_free HS.out 1
  have sf2 : X1.frozen? ⟨S, 2, none⟩ = false := blk_free HS.out 2
  have sf3 : X1.frozen? ⟨S, 3, none⟩ = false := blk_free HS.out 3
  clear hp
  go_upto_region 32 with fail
  rw [← hZ]
  clear hZ s0 s1 s2 s3 sf0 sf1 sf2 sf3 q2
  obtain ⟨Y, hY⟩ : ∃ Y, Y = ((((Z.setCell ⟨R, 0, none⟩ (.int .i64 2)).setCell ⟨R, 1, none⟩ (.string (bs key))).setCell ⟨R, 2, none⟩ (.string ⟨#[]⟩)).setCell ⟨R, 3, none⟩ (.int .i64 0)) := ⟨_, rfl⟩
  have HY : Hid (CqAt Y R (2) (key) ([]) (0) ∧ Kept Nil w Y) := by rw [hY]; exact ⟨CqAt.all HZ.out.1 _ _ _ _, ((((HZ.out.2.2.setNew (p := ⟨R, 0, none⟩) HI.out.wr _).setNew (p := ⟨R, 1, none⟩) HI.out.wr _).setNew (p := ⟨R, 2, none⟩) HI.out.wr _).setNew (p := ⟨R, 3, none⟩) HI.out.wr _)⟩
  have r0 : Z.cell? ⟨R, 0, none⟩ = some (.int .i64 0) := blk_at HZ.out.1 0 rfl
  have r1 : Z.cell? ⟨R, 1, none⟩ = some (.string ⟨#[]⟩) := blk_at HZ.out.1 1 rfl
  have r2 : Z.cell? ⟨R, 2, none⟩ = some (.string ⟨#[]⟩) := blk_at HZ.out.1 2 rfl
  have r3 : Z.cell? ⟨R, 3, none⟩ = some (.int .i64 0) := blk_at HZ.out.1 3 rfl
  have rf0 : Z.frozen? ⟨R, 0, none⟩ = false := blk_free HZ.out.1 0
  have rf1 : Z.frozen? ⟨R, 1, none⟩ = false := blk_free HZ.out.1 1
  have rf2 : Z.frozen? ⟨R, 2, none⟩ = false := blk_free HZ.out.1 2
  have rf3 : Z.frozen? ⟨R, 3, none⟩ = false := blk_free HZ.out.1 3
  have s0 : Z.cell? ⟨S, 0, none⟩ = some (.int .i64 2) := blk_at HZ.out.2.1 0 rfl
  have s1 : Z.cell? ⟨S, 1, none⟩ = some (.string (bs key)) := blk_at HZ.out.2.1 1 rfl
  have s2 : Z.cell? ⟨S, 2, none⟩ = some (.string ⟨#[]⟩) := blk_at HZ.out.2.1 2 rfl
  have s3 : Z.cell? ⟨S, 3, none⟩ = some (.int .i64 0) := blk_at HZ.out.2.1 3 rfl
  go_wp2
  rw [← hY]
  have j0 : Y.cell? ⟨R, 0, none⟩ = some (.int .i64 2) := blk_at HY.out.1 0 rfl
  have j1 : Y.cell? ⟨R, 1, none⟩ = some (.string (bs key)) := blk_at HY.out.1 1 rfl
  have j2 : Y.cell? ⟨R, 2, none⟩ = some (.string ⟨#[]⟩) := blk_at HY.out.1 2 rfl
  have j3 : Y.cell? ⟨R, 3, none⟩ = some (.int .i64 0) := blk_at HY.out.1 3 rfl
  exact bodyPost_ret (v := .tuple #[.agg #[.int .i64 2, .string (bs key), .string ⟨#[]⟩, .int .i64 0], .bool true]) (by simp [results, Tryz.results13, go_sem, j0, j1, j2, j3]) rfl ⟨by rw [hn, HI.out.ek]; rfl, HY.out.2⟩
set_option maxRecDepth 100000 in
set_option maxHeartbeats 4000000 in
theorem dmT8 (w X : World) (b R : Nat) (t : Tx) (D : Dx) (ap oo : Option Addr) (cp oc : Nat) (own oth key : List UInt8) (nn : Nat) (HI : Hid (DmIn w X b R t D ap oo cp oc own oth key nn)) (hp : t.ph = 8) (fv1 fv3 fv8 fv9 fv10 fv11 fv12 fv13 fv14 fv15 fv16 fv17 fv18 fv19 fv20 fv21 fv22 fv23 fv24 fv25 fv26 fv27 fv28 fv29 fv30 fv31 fv32 fv33 fv34 fv35 fv36 fv37 fv38 fv39 fv40 fv41 fv42 fv43 fv44 fv45 fv46 fv47 fv48 fv49 fv50 fv51 fv52 fv53 fv54 fv55 fv56 fv57 fv58 fv59 fv60 fv61 fv62 fv63 fv64 fv65 fv66 fv67 fv68 fv69 fv70 fv71 fv72 fv73 fv74 fv75 fv76 fv77 fv78 fv79 fv80 fv81 fv82 fv83 fv84 fv85 fv86 fv87 fv88 fv89 fv90 fv91 fv92 fv93 fv94 fv95 fv96 fv97 fv98 fv99 fv100 fv101 fv102 fv103 fv104 fv105 fv106 fv107 fv108 fv109 fv110 fv111 fv112 fv113 fv114 fv115 fv116 fv117 fv118 fv119 fv120 fv121 fv122 fv123 fv124 fv125 fv126 fv127 fv128 fv129 fv130 fv131 fv132 fv133 fv134 fv135 : Value) :
    Code.wp Tryz.prog dT7 (bodyPost Tryz.prog Tryz.f13 (NxPost w t.next)) ⟨#[.pointer (some ⟨b, 0, none⟩), fv1, .pointer (some ⟨R, 0, none⟩), fv3, .string (bs own), .string (bs oth), .string (bs key), .int .i64 nn, fv8, fv9, fv10, fv11, fv12, fv13, fv14, fv15, fv16, fv17, fv18, fv19, fv20, fv21, fv22, fv23, fv24, fv25, fv26, fv27, fv28, fv29, fv30, fv31, fv32, fv33, fv34, fv35, fv36, fv37, fv38, fv39, fv40, fv41, fv42, fv43, fv44, fv45, fv46, fv47, fv48, fv49, fv50, fv51, fv52, fv53, fv54, fv55, fv56, fv57, fv58, fv59, fv60, fv61, fv62, fv63, fv64, fv65, fv66, fv67, fv68, fv69, fv70, fv71, fv72, fv73, fv74, fv75, fv76, fv77, fv78, fv79, fv80, fv81, fv82, fv83, fv84, fv85, fv86, fv87, fv88, fv89, fv90, fv91, fv92, fv93, fv94, fv95, fv96, fv97, fv98, fv99, fv100, fv101, fv102, fv103, fv104, fv105, fv106, fv107, fv108, fv109, fv110, fv111, fv112, fv113, fv114, fv115, fv116, fv117, fv118, fv119, fv120, fv121, fv122, fv123, fv124, fv125, fv126, fv127, fv128, fv129, fv130, fv131, fv132, fv133, fv134, fv135], []⟩ X := by
  conv => arg 2; whnf
  dsimp only
  obtain ⟨X1, hX1⟩ : ∃ Y, Y = X.alloc (.cells #[.int .i64 4, .string (bs own), .string ⟨#[]⟩, .int .i64 0] 31) := ⟨_, rfl⟩
  obtain ⟨S, HSe⟩ : ∃ A, Hid (A = X.heap.size) := ⟨_, rfl⟩
  have HS : Hid (CqAt X1 S 4 own [] 0) := by rw [hX1, HSe.out]; exact blk_new _ _
  have KX1 : Hid (Kept Nil X X1) := by rw [hX1]; exact (Kept.refl _ _).alloc _
  have HT : Hid (TdAt X1 b t D ap oo cp oc) := HI.out.td.kept KX1.out
  have HR : Hid (CqAt X1 R 0 [] [] 0) := HI.out.cr.kept KX1.out
  have hRS : R ≠ S := by have h1 := lt_of_block HI.out.cr; have h2 := HSe.out; omega
  have hbS : b ≠ S := by have h1 := lt_of_block HI.out.td; have h2 := HSe.out; omega
  have hbR : b ≠ R := HI.out.br
  have hSR : S ≠ R := hRS.symm
  have hSb : S ≠ b := hbS.symm
  have hRb : R ≠ b := hbR.symm
  have HwS : Hid (w.heap.size ≤ S) := by show _ ≤ _; rw [HSe.out]; exact HI.out.kp.size
  have HK1 : Hid (Kept Nil w X1) := HI.out.kp.trans KX1.out
  go_upto_region 8 with fail
  rw [← hX1, ← HSe.out]
  clear hX1 HSe
  have q2 : X1.cell? ⟨b, 2, none⟩ = some (.string ⟨#[99, 108, 101, 97, 114]⟩) := by
    have e : X1.cell? ⟨b, 2, none⟩ = some (.string (bs (phW t.ph))) := blk_at HT.out 2 rfl
    rw [hp] at e
    exact e
  have hn : t.next = (getC t.key, true) := by unfold Tx.next; simp [hp]
  obtain ⟨Z, hZ⟩ : ∃ Z, Z = ((((X1.setCell ⟨S, 0, none⟩ (.int .i64 2)).setCell ⟨S, 1, none⟩ (.string (bs key))).setCell ⟨S, 2, none⟩ (.string ⟨#[]⟩)).setCell ⟨S, 3, none⟩ (.int .i64 0)) := ⟨_, rfl⟩
  have HZ : Hid (CqAt Z R 0 [] [] 0 ∧ CqAt Z S (2) (key) ([]) (0) ∧ Kept Nil w Z) := by rw [hZ]; exact ⟨(CqAt.off (CqAt.off (CqAt.off (CqAt.off HR.out hRS 0 _) hRS 1 _) hRS 2 _) hRS 3 _), (blk_set (blk_set (blk_set (blk_set HS.out 0 _) 1 _) 2 _) 3 _), ((((HK1.out.setNew (p := ⟨S, 0, none⟩) HwS.out _).setNew (p := ⟨S, 1, none⟩) HwS.out _).setNew (p := ⟨S, 2, none⟩) HwS.out _).setNew (p := ⟨S, 3, none⟩) HwS.out _)⟩
  have s0 : X1.cell? ⟨S, 0, none⟩ = some (.int .i64 4) := blk_at HS.out 0 rfl
  have s1 : X1.cell? ⟨S, 1, none⟩ = some (.string (bs own)) := blk_at HS.out 1 rfl
  have s2 : X1.cell? ⟨S, 2, none⟩ = some (.string ⟨#[]⟩) := blk_at HS.out 2 rfl
  have s3 : X1.cell? ⟨S, 3, none⟩ = some (.int .i64 0) := blk_at HS.out 3 rfl
  have sf0 : X1.frozen? ⟨S, 0, none⟩ = false := blk_free HS.out 0
  have sf1 : X1.frozen? ⟨S, 1, none⟩ = false := blk_free HS.out 1
  have sf2 : X1.frozen? ⟨S, 2, none⟩ = false := blk_free HS.out 2
  have sf3 : X1.frozen? ⟨S, 3, none⟩ = false := blk_free HS.out 3
  clear hp
  go_upto_region 32 with fail
  rw [← hZ]
  clear hZ s0 s1 s2 s3 sf0 sf1 sf2 sf3 q2
  obtain ⟨Y, hY⟩ : ∃ Y, Y = ((((Z.setCell ⟨R, 0, none⟩ (.int .i64 2)).setCell ⟨R, 1, none⟩ (.string (bs key))).setCell ⟨R, 2, none⟩ (.string ⟨#[]⟩)).setCell ⟨R, 3, none⟩ (.int .i64 0)) := ⟨_, rfl⟩
  have HY : Hid (CqAt Y R (2) (key) ([]) (0) ∧ Kept Nil w Y) := by rw [hY]; exact ⟨CqAt.all HZ.out.1 _ _ _ _, ((((HZ.out.2.2.setNew (p := ⟨R, 0, none⟩) HI.out.wr _).setNew (p := ⟨R, 1, none⟩) HI.out.wr _).setNew (p := ⟨R, 2, none⟩) HI.out.wr _).setNew (p := ⟨R, 3, none⟩) HI.out.wr _)⟩
  have r0 : Z.cell? ⟨R, 0, none⟩ = some (.int .i64 0) := blk_at HZ.out.1 0 rfl
  have r1 : Z.cell? ⟨R, 1, none⟩ = some (.string ⟨#[]⟩) := blk_at HZ.out.1 1 rfl
  have r2 : Z.cell? ⟨R, 2, none⟩ = some (.string ⟨#[]⟩) := blk_at HZ.out.1 2 rfl
  have r3 : Z.cell? ⟨R, 3, none⟩ = some (.int .i64 0) := blk_at HZ.out.1 3 rfl
  have rf0 : Z.frozen? ⟨R, 0, none⟩ = false := blk_free HZ.out.1 0
  have rf1 : Z.frozen? ⟨R, 1, none⟩ = false := blk_free HZ.out.1 1
  have rf2 : Z.frozen? ⟨R, 2, none⟩ = false := blk_free HZ.out.1 2
  have rf3 : Z.frozen? ⟨R, 3, none⟩ = false := blk_free HZ.out.1 3
  have s0 : Z.cell? ⟨S, 0, none⟩ = some (.int .i64 2) := blk_at HZ.out.2.1 0 rfl
  have s1 : Z.cell? ⟨S, 1, none⟩ = some (.string (bs key)) := blk_at HZ.out.2.1 1 rfl
  have s2 : Z.cell? ⟨S, 2, none⟩ = some (.string ⟨#[]⟩) := blk_at HZ.out.2.1 2 rfl
  have s3 : Z.cell? ⟨S, 3, none⟩ = some (.int .i64 0) := blk_at HZ.out.2.1 3 rfl
  go_wp2
  rw [← hY]
  have j0 : Y.cell? ⟨R, 0, none⟩ = some (.int .i64 2) := blk_at HY.out.1 0 rfl
  have j1 : Y.cell? ⟨R, 1, none⟩ = some (.string (bs key)) := blk_at HY.out.1 1 rfl
  have j2 : Y.cell? ⟨R, 2, none⟩ = some (.string ⟨#[]⟩) := blk_at HY.out.1 2 rfl
  have j3 : Y.cell? ⟨R, 3, none⟩ = some (.int .i64 0) := blk_at HY.out.1 3 rfl
  exact bodyPost_ret (v := .tuple #[.agg #[.int .i64 2, .string (bs key), .string ⟨#[]⟩, .int .i64 0], .bool true]) (by simp [results, Tryz.results13, go_sem, j0, j1, j2, j3]) rfl ⟨by rw [hn, HI.out.ek]; rfl, HY.out.2⟩
set_option maxRecDepth 100000 in
set_option maxHeartbeats 4000000 in
theorem dmT3 (w X : World) (b R : Nat) (t : Tx) (D : Dx) (ap oo : Option Addr) (cp oc : Nat) (own oth key : List UInt8) (nn : Nat) (HI : Hid (DmIn w X b R t D ap oo cp oc own oth key nn)) (hp : t.ph = 3) (fv1 fv3 fv8 fv9 fv10 fv11 fv12 fv13 fv14 fv15 fv16 fv17 fv18 fv19 fv20 fv21 fv22 fv23 fv24 fv25 fv26 fv27 fv28 fv29 fv30 fv31 fv32 fv33 fv34 fv35 fv36 fv37 fv38 fv39 fv40 fv41 fv42 fv43 fv44 fv45 fv46 fv47 fv48 fv49 fv50 fv51 fv52 fv53 fv54 fv55 fv56 fv57 fv58 fv59 fv60 fv61 fv62 fv63 fv64 fv65 fv66 fv67 fv68 fv69 fv70 fv71 fv72 fv73 fv74 fv75 fv76 fv77 fv78 fv79 fv80 fv81 fv82 fv83 fv84 fv85 fv86 fv87 fv88 fv89 fv90 fv91 fv92 fv93 fv94 fv95 fv96 fv97 fv98 fv99 fv100 fv101 fv102 fv103 fv104 fv105 fv106 fv107 fv108 fv109 fv110 fv111 fv112 fv113 fv114 fv115 fv116 fv117 fv118 fv119 fv120 fv121 fv122 fv123 fv124 fv125 fv126 fv127 fv128 fv129 fv130 fv131 fv132 fv133 fv134 fv135 : Value) :
    Code.wp Tryz.prog dT7 (bodyPost Tryz.prog Tryz.f13 (NxPost w t.next)) ⟨#[.pointer (some ⟨b, 0, none⟩), fv1, .pointer (some ⟨R, 0, none⟩), fv3, .string (bs own), .string (bs oth), .string (bs key), .int .i64 nn, fv8, fv9, fv10, fv11, fv12, fv13, fv14, fv15, fv16, fv17, fv18, fv19, fv20, fv21, fv22, fv23, fv24, fv25, fv26, fv27, fv28, fv29, fv30, fv31, fv32, fv33, fv34, fv35, fv36, fv37, fv38, fv39, fv40, fv41, fv42, fv43, fv44, fv45, fv46, fv47, fv48, fv49, fv50, fv51, fv52, fv53, fv54, fv55, fv56, fv57, fv58, fv59, fv60, fv61, fv62, fv63, fv64, fv65, fv66, fv67, fv68, fv69, fv70, fv71, fv72, fv73, fv74, fv75, fv76, fv77, fv78, fv79, fv80, fv81, fv82, fv83, fv84, fv85, fv86, fv87, fv88, fv89, fv90, fv91, fv92, fv93, fv94, fv95, fv96, fv97, fv98, fv99, fv100, fv101, fv102, fv103, fv104, fv105, fv106, fv107, fv108, fv109, fv110, fv111, fv112, fv113, fv114, fv115, fv116, fv117, fv118, fv119, fv120, fv121, fv122, fv123, fv124, fv125, fv126, fv127, fv128, fv129, fv130, fv131, fv132, fv133, fv134, fv135], []⟩ X := by
  conv => arg 2; whnf
  dsimp only
  obtain ⟨X1, hX1⟩ : ∃ Y, Y = X.alloc (.cells #[.int .i64 4, .string (bs own), .string ⟨#[]⟩, .int .i64 0] 31) := ⟨_, rfl⟩
  obtain ⟨S, HSe⟩ : ∃ A, Hid (A = X.heap.size) := ⟨_, rfl⟩
  have HS : Hid (CqAt X1 S 4 own [] 0) := by rw [hX1, HSe.out]; exact blk_new _ _
  have KX1 : Hid (Kept Nil X X1) := by rw [hX1]; exact (Kept.refl _ _).alloc _
  have HT : Hid (TdAt X1 b t D ap oo cp oc) := HI.out.td.kept KX1.out
  have HR : Hid (CqAt X1 R 0 [] [] 0) := HI.out.cr.kept KX1.out
  have hRS : R ≠ S := by have h1 := lt_of_block HI.out.cr; have h2 := HSe.out; omega
  have hbS : b ≠ S := by have h1 := lt_of_block HI.out.td; have h2 := HSe.out; omega
  have hbR : b ≠ R := HI.out.br
  have hSR : S ≠ R := hRS.symm
  have hSb : S ≠ b := hbS.symm
  have hRb : R ≠ b := hbR.symm
  have HwS : Hid (w.heap.size ≤ S) := by show _ ≤ _; rw [HSe.out]; exact HI.out.kp.size
  have HK1 : Hid (Kept Nil w X1) := HI.out.kp.trans KX1.out
  go_upto_region 8 with fail
  rw [← hX1, ← HSe.out]
  clear hX1 HSe
  have q2 : X1.cell? ⟨b, 2, none⟩ = some (.string ⟨#[97, 115, 107]⟩) := by
    have e : X1.cell? ⟨b, 2, none⟩ = some (.string (bs (phW t.ph))) := blk_at HT.out 2 rfl
    rw [hp] at e
    exact e
  have hn : t.next = (getC (tKey t.sn.b), true) := by unfold Tx.next; simp [hp]
  have hsn : D.sn = t.sn := HI.out.sm.sn (by omega)
  have HSN : Hid (D.sn = t.sn) := hsn
  clear hsn
  obtain ⟨Z, hZ⟩ : ∃ Z, Z = ((((X1.setCell ⟨S, 0, none⟩ (.int .i64 2)).setCell ⟨S, 1, none⟩ (.string (bs oth))).setCell ⟨S, 2, none⟩ (.string ⟨#[]⟩)).setCell ⟨S, 3, none⟩ (.int .i64 0)) := ⟨_, rfl⟩
  have HZ : Hid (CqAt Z R 0 [] [] 0 ∧ CqAt Z S (2) (oth) ([]) (0) ∧ Kept Nil w Z) := by rw [hZ]; exact ⟨(CqAt.off (CqAt.off (CqAt.off (CqAt.off HR.out hRS 0 _) hRS 1 _) hRS 2 _) hRS 3 _), (blk_set (blk_set (blk_set (blk_set HS.out 0 _) 1 _) 2 _) 3 _), ((((HK1.out.setNew (p := ⟨S, 0, none⟩) HwS.out _).setNew (p := ⟨S, 1, none⟩) HwS.out _).setNew (p := ⟨S, 2, none⟩) HwS.out _).setNew (p := ⟨S, 3, none⟩) HwS.out _)⟩
  have s0 : X1.cell? ⟨S, 0, none⟩ = some (.int .i64 4) := blk_at HS.out 0 rfl
  have s1 : X1.cell? ⟨S, 1, none⟩ = some (.string (bs own)) := blk_at HS.out 1 rfl
  have s2 : X1.cell? ⟨S, 2, none⟩ = some (.string ⟨#[]⟩) := blk_at HS.out 2 rfl
  have s3 : X1.cell? ⟨S, 3, none⟩ = some (.int .i64 0) := blk_at HS.out 3 rfl
  have sf0 : X1.frozen? ⟨S, 0, none⟩ = false := blk_free HS.out 0
  have sf1 : X1.frozen? ⟨S, 1, none⟩ = false := blk_free HS.out 1
  have sf2 : X1.frozen? ⟨S, 2, none⟩ = false := blk_free HS.out 2
  have sf3 : X1.frozen? ⟨S, 3, none⟩ = false := blk_free HS.out 3
  clear hp
  go_upto_region 32 with fail
  rw [← hZ]
  clear hZ s0 s1 s2 s3 sf0 sf1 sf2 sf3 q2
  obtain ⟨Y, hY⟩ : ∃ Y, Y = ((((Z.setCell ⟨R, 0, none⟩ (.int .i64 2)).setCell ⟨R, 1, none⟩ (.string (bs oth))).setCell ⟨R, 2, none⟩ (.string ⟨#[]⟩)).setCell ⟨R, 3, none⟩ (.int .i64 0)) := ⟨_, rfl⟩
  have HY : Hid (CqAt Y R (2) (oth) ([]) (0) ∧ Kept Nil w Y) := by rw [hY]; exact ⟨CqAt.all HZ.out.1 _ _ _ _, ((((HZ.out.2.2.setNew (p := ⟨R, 0, none⟩) HI.out.wr _).setNew (p := ⟨R, 1, none⟩) HI.out.wr _).setNew (p := ⟨R, 2, none⟩) HI.out.wr _).setNew (p := ⟨R, 3, none⟩) HI.out.wr _)⟩
  have r0 : Z.cell? ⟨R, 0, none⟩ = some (.int .i64 0) := blk_at HZ.out.1 0 rfl
  have r1 : Z.cell? ⟨R, 1, none⟩ = some (.string ⟨#[]⟩) := blk_at HZ.out.1 1 rfl
  have r2 : Z.cell? ⟨R, 2, none⟩ = some (.string ⟨#[]⟩) := blk_at HZ.out.1 2 rfl
  have r3 : Z.cell? ⟨R, 3, none⟩ = some (.int .i64 0) := blk_at HZ.out.1 3 rfl
  have rf0 : Z.frozen? ⟨R, 0, none⟩ = false := blk_free HZ.out.1 0
  have rf1 : Z.frozen? ⟨R, 1, none⟩ = false := blk_free HZ.out.1 1
  have rf2 : Z.frozen? ⟨R, 2, none⟩ = false := blk_free HZ.out.1 2
  have rf3 : Z.frozen? ⟨R, 3, none⟩ = false := blk_free HZ.out.1 3
  have s0 : Z.cell? ⟨S, 0, none⟩ = some (.int .i64 2) := blk_at HZ.out.2.1 0 rfl
  have s1 : Z.cell? ⟨S, 1, none⟩ = some (.string (bs oth)) := blk_at HZ.out.2.1 1 rfl
  have s2 : Z.cell? ⟨S, 2, none⟩ = some (.string ⟨#[]⟩) := blk_at HZ.out.2.1 2 rfl
  have s3 : Z.cell? ⟨S, 3, none⟩ = some (.int .i64 0) := blk_at HZ.out.2.1 3 rfl
  go_wp2
  rw [← hY]
  have j0 : Y.cell? ⟨R, 0, none⟩ = some (.int .i64 2) := blk_at HY.out.1 0 rfl
  have j1 : Y.cell? ⟨R, 1, none⟩ = some (.string (bs oth)) := blk_at HY.out.1 1 rfl
  have j2 : Y.cell? ⟨R, 2, none⟩ = some (.string ⟨#[]⟩) := blk_at HY.out.1 2 rfl
  have j3 : Y.cell? ⟨R, 3, none⟩ = some (.int .i64 0) := blk_at HY.out.1 3 rfl
  exact bodyPost_ret (v := .tuple #[.agg #[.int .i64 2, .string (bs oth), .string ⟨#[]⟩, .int .i64 0], .bool true]) (by simp [results, Tryz.results13, go_sem, j0, j1, j2, j3]) rfl ⟨by rw [hn, HI.out.eh, HSN.out]; rfl, HY.out.2⟩
set_option maxRecDepth 100000 in
set_option maxHeartbeats 4000000 in
theorem dmT4 (w X : World) (b R : Nat) (t : Tx) (D : Dx) (ap oo : Option Addr) (cp oc : Nat) (own oth key : List UInt8) (nn : Nat) (HI : Hid (DmIn w X b R t D ap oo cp oc own oth key nn)) (hp : t.ph = 4) (fv1 fv3 fv8 fv9 fv10 fv11 fv12 fv13 fv14 fv15 fv16 fv17 fv18 fv19 fv20 fv21 fv22 fv23 fv24 fv25 fv26 fv27 fv28 fv29 fv30 fv31 fv32 fv33 fv34 fv35 fv36 fv37 fv38 fv39 fv40 fv41 fv42 fv43 fv44 fv45 fv46 fv47 fv48 fv49 fv50 fv51 fv52 fv53 fv54 fv55 fv56 fv57 fv58 fv59 fv60 fv61 fv62 fv63 fv64 fv65 fv66 fv67 fv68 fv69 fv70 fv71 fv72 fv73 fv74 fv75 fv76 fv77 fv78 fv79 fv80 fv81 fv82 fv83 fv84 fv85 fv86 fv87 fv88 fv89 fv90 fv91 fv92 fv93 fv94 fv95 fv96 fv97 fv98 fv99 fv100 fv101 fv102 fv103 fv104 fv105 fv106 fv107 fv108 fv109 fv110 fv111 fv112 fv113 fv114 fv115 fv116 fv117 fv118 fv119 fv120 fv121 fv122 fv123 fv124 fv125 fv126 fv127 fv128 fv129 fv130 fv131 fv132 fv133 fv134 fv135 : Value) :
    Code.wp Tryz.prog dT7 (bodyPost Tryz.prog Tryz.f13 (NxPost w t.next)) ⟨#[.pointer (some ⟨b, 0, none⟩), fv1, .pointer (some ⟨R, 0, none⟩), fv3, .string (bs own), .string (bs oth), .string (bs key), .int .i64 nn, fv8, fv9, fv10, fv11, fv12, fv13, fv14, fv15, fv16, fv17, fv18, fv19, fv20, fv21, fv22, fv23, fv24, fv25, fv26, fv27, fv28, fv29, fv30, fv31, fv32, fv33, fv34, fv35, fv36, fv37, fv38, fv39, fv40, fv41, fv42, fv43, fv44, fv45, fv46, fv47, fv48, fv49, fv50, fv51, fv52, fv53, fv54, fv55, fv56, fv57, fv58, fv59, fv60, fv61, fv62, fv63, fv64, fv65, fv66, fv67, fv68, fv69, fv70, fv71, fv72, fv73, fv74, fv75, fv76, fv77, fv78, fv79, fv80, fv81, fv82, fv83, fv84, fv85, fv86, fv87, fv88, fv89, fv90, fv91, fv92, fv93, fv94, fv95, fv96, fv97, fv98, fv99, fv100, fv101, fv102, fv103, fv104, fv105, fv106, fv107, fv108, fv109, fv110, fv111, fv112, fv113, fv114, fv115, fv116, fv117, fv118, fv119, fv120, fv121, fv122, fv123, fv124, fv125, fv126, fv127, fv128, fv129, fv130, fv131, fv132, fv133, fv134, fv135], []⟩ X := by
  conv => arg 2; whnf
  dsimp only
  obtain ⟨X1, hX1⟩ : ∃ Y, Y = X.alloc (.cells #[.int .i64 4, .string (bs own), .string ⟨#[]⟩, .int .i64 0] 31) := ⟨_, rfl⟩
  obtain ⟨S, HSe⟩ : ∃ A, Hid (A = X.heap.size) := ⟨_, rfl⟩
  have HS : Hid (CqAt X1 S 4 own [] 0) := by rw [hX1, HSe.out]; exact blk_new _ _
  have KX1 : Hid (Kept Nil X X1) := by rw [hX1]; exact (Kept.refl _ _).alloc _
  have HT : Hid (TdAt X1 b t D ap oo cp oc) := HI.out.td.kept KX1.out
  have HR : Hid (CqAt X1 R 0 [] [] 0) := HI.out.cr.kept KX1.out
  have hRS : R ≠ S := by have h1 := lt_of_block HI.out.cr; have h2 := HSe.out; omega
  have hbS : b ≠ S := by have h1 := lt_of_block HI.out.td; have h2 := HSe.out; omega
  have hbR : b ≠ R := HI.out.br
  have hSR : S ≠ R := hRS.symm
  have hSb : S ≠ b := hbS.symm
  have hRb : R ≠ b := hbR.symm
  have HwS : Hid (w.heap.size ≤ S) := by show _ ≤ _; rw [HSe.out]; exact HI.out.kp.size
  have HK1 : Hid (Kept Nil w X1) := HI.out.kp.trans KX1.out
  go_upto_region 8 with fail
  rw [← hX1, ← HSe.out]
  clear hX1 HSe
  have q2 : X1.cell? ⟨b, 2, none⟩ = some (.string ⟨#[101, 110, 100]⟩) := by
    have e : X1.cell? ⟨b, 2, none⟩ = some (.string (bs (phW t.ph))) := blk_at HT.out 2 rfl
    rw [hp] at e
    exact e
  have hn : t.next = (swapC (tKey t.sn.b) wOff t.hv, true) := by unfold Tx.next; simp [hp]
  have HSN : Hid (D.sn = t.sn ∧ D.v = t.hv) := ⟨HI.out.sm.sn (by omega), HI.out.sm.hv hp⟩
  obtain ⟨Z, hZ⟩ : ∃ Z, Z = ((((X1.setCell ⟨S, 0, none⟩ (.int .i64 4)).setCell ⟨S, 1, none⟩ (.string (bs oth))).setCell ⟨S, 2, none⟩ (.string ⟨#[111, 102, 102]⟩)).setCell ⟨S, 3, none⟩ (.int .i64 D.v)) := ⟨_, rfl⟩
  have HZ : Hid (CqAt Z R 0 [] [] 0 ∧ CqAt Z S (4) (oth) ([111, 102, 102]) (D.v) ∧ Kept Nil w Z) := by rw [hZ]; exact ⟨(CqAt.off (CqAt.off (CqAt.off (CqAt.off HR.out hRS 0 _) hRS 1 _) hRS 2 _) hRS 3 _), (blk_set (blk_set (blk_set (blk_set HS.out 0 _) 1 _) 2 _) 3 _), ((((HK1.out.setNew (p := ⟨S, 0, none⟩) HwS.out _).setNew (p := ⟨S, 1, none⟩) HwS.out _).setNew (p := ⟨S, 2, none⟩) HwS.out _).setNew (p := ⟨S, 3, none⟩) HwS.out _)⟩
  have q8 : X1.cell? ⟨b, 8, none⟩ = some (.int .i64 D.v) := blk_at HT.out 8 rfl
  have s0 : X1.cell? ⟨S, 0, none⟩ = some (.int .i64 4) := blk_at HS.out 0 rfl
  have s1 : X1.cell? ⟨S, 1, none⟩ = some (.string (bs own)) := blk_at HS.out 1 rfl
  have s2 : X1.cell? ⟨S, 2, none⟩ = some (.string ⟨#[]⟩) := blk_at HS.out 2 rfl
  have s3 : X1.cell? ⟨S, 3, none⟩ = some (.int .i64 0) := blk_at HS.out 3 rfl
  have sf0 : X1.frozen? ⟨S, 0, none⟩ = false := blk_free HS.out 0
  have sf1 : X1.frozen? ⟨S, 1, none⟩ = false := blk_free HS.out 1
  have sf2 : X1.frozen? ⟨S, 2, none⟩ = false := blk_free HS.out 2
  have sf3 : X1.frozen? ⟨S, 3, none⟩ = false := blk_free HS.out 3
  clear hp
  go_upto_region 32 with fail
  rw [← hZ]
  clear hZ s0 s1 s2 s3 sf0 sf1 sf2 sf3 q2
  obtain ⟨Y, hY⟩ : ∃ Y, Y = ((((Z.setCell ⟨R, 0, none⟩ (.int .i64 4)).setCell ⟨R, 1, none⟩ (.string (bs oth))).setCell ⟨R, 2, none⟩ (.string ⟨#[111, 102, 102]⟩)).setCell ⟨R, 3, none⟩ (.int .i64 D.v)) := ⟨_, rfl⟩
  have HY : Hid (CqAt Y R (4) (oth) ([111, 102, 102]) (D.v) ∧ Kept Nil w Y) := by rw [hY]; exact ⟨CqAt.all HZ.out.1 _ _ _ _, ((((HZ.out.2.2.setNew (p := ⟨R, 0, none⟩) HI.out.wr _).setNew (p := ⟨R, 1, none⟩) HI.out.wr _).setNew (p := ⟨R, 2, none⟩) HI.out.wr _).setNew (p := ⟨R, 3, none⟩) HI.out.wr _)⟩
  have r0 : Z.cell? ⟨R, 0, none⟩ = some (.int .i64 0) := blk_at HZ.out.1 0 rfl
  have r1 : Z.cell? ⟨R, 1, none⟩ = some (.string ⟨#[]⟩) := blk_at HZ.out.1 1 rfl
  have r2 : Z.cell? ⟨R, 2, none⟩ = some (.string ⟨#[]⟩) := blk_at HZ.out.1 2 rfl
  have r3 : Z.cell? ⟨R, 3, none⟩ = some (.int .i64 0) := blk_at HZ.out.1 3 rfl
  have rf0 : Z.frozen? ⟨R, 0, none⟩ = false := blk_free HZ.out.1 0
  have rf1 : Z.frozen? ⟨R, 1, none⟩ = false := blk_free HZ.out.1 1
  have rf2 : Z.frozen? ⟨R, 2, none⟩ = false := blk_free HZ.out.1 2
  have rf3 : Z.frozen? ⟨R, 3, none⟩ = false := blk_free HZ.out.1 3
  have s0 : Z.cell? ⟨S, 0, none⟩ = some (.int .i64 4) := blk_at HZ.out.2.1 0 rfl
  have s1 : Z.cell? ⟨S, 1, none⟩ = some (.string (bs oth)) := blk_at HZ.out.2.1 1 rfl
  have s2 : Z.cell? ⟨S, 2, none⟩ = some (.string ⟨#[111, 102, 102]⟩) := blk_at HZ.out.2.1 2 rfl
  have s3 : Z.cell? ⟨S, 3, none⟩ = some (.int .i64 D.v) := blk_at HZ.out.2.1 3 rfl
  go_wp2
  rw [← hY]
  have j0 : Y.cell? ⟨R, 0, none⟩ = some (.int .i64 4) := blk_at HY.out.1 0 rfl
  have j1 : Y.cell? ⟨R, 1, none⟩ = some (.string (bs oth)) := blk_at HY.out.1 1 rfl
  have j2 : Y.cell? ⟨R, 2, none⟩ = some (.string ⟨#[111, 102, 102]⟩) := blk_at HY.out.1 2 rfl
  have j3 : Y.cell? ⟨R, 3, none⟩ = some (.int .i64 D.v) := blk_at HY.out.1 3 rfl
  exact bodyPost_ret (v := .tuple #[.agg #[.int .i64 4, .string (bs oth), .string ⟨#[111, 102, 102]⟩, .int .i64 D.v], .bool true]) (by simp [results, Tryz.results13, go_sem, j0, j1, j2, j3]) rfl ⟨by rw [hn, HI.out.eh, HSN.out.1, ← HSN.out.2]; rfl, HY.out.2⟩
set_option maxRecDepth 100000 in
set_option maxHeartbeats 4000000 in
theorem dmT6 (w X : World) (b R : Nat) (t : Tx) (D : Dx) (ap oo : Option Addr) (cp oc : Nat) (own oth key : List UInt8) (nn : Nat) (HI : Hid (DmIn w X b R t D ap oo cp oc own oth key nn)) (hp : t.ph = 6) (fv1 fv3 fv8 fv9 fv10 fv11 fv12 fv13 fv14 fv15 fv16 fv17 fv18 fv19 fv20 fv21 fv22 fv23 fv24 fv25 fv26 fv27 fv28 fv29 fv30 fv31 fv32 fv33 fv34 fv35 fv36 fv37 fv38 fv39 fv40 fv41 fv42 fv43 fv44 fv45 fv46 fv47 fv48 fv49 fv50 fv51 fv52 fv53 fv54 fv55 fv56 fv57 fv58 fv59 fv60 fv61 fv62 fv63 fv64 fv65 fv66 fv67 fv68 fv69 fv70 fv71 fv72 fv73 fv74 fv75 fv76 fv77 fv78 fv79 fv80 fv81 fv82 fv83 fv84 fv85 fv86 fv87 fv88 fv89 fv90 fv91 fv92 fv93 fv94 fv95 fv96 fv97 fv98 fv99 fv100 fv101 fv102 fv103 fv104 fv105 fv106 fv107 fv108 fv109 fv110 fv111 fv112 fv113 fv114 fv115 fv116 fv117 fv118 fv119 fv120 fv121 fv122 fv123 fv124 fv125 fv126 fv127 fv128 fv129 fv130 fv131 fv132 fv133 fv134 fv135 : Value) :
    Code.wp Tryz.prog dT7 (bodyPost Tryz.prog Tryz.f13 (NxPost w t.next)) ⟨#[.pointer (some ⟨b, 0, none⟩), fv1, .pointer (some ⟨R, 0, none⟩), fv3, .string (bs own), .string (bs oth), .string (bs key), .int .i64 nn, fv8, fv9, fv10, fv11, fv12, fv13, fv14, fv15, fv16, fv17, fv18, fv19, fv20, fv21, fv22, fv23, fv24, fv25, fv26, fv27, fv28, fv29, fv30, fv31, fv32, fv33, fv34, fv35, fv36, fv37, fv38, fv39, fv40, fv41, fv42, fv43, fv44, fv45, fv46, fv47, fv48, fv49, fv50, fv51, fv52, fv53, fv54, fv55, fv56, fv57, fv58, fv59, fv60, fv61, fv62, fv63, fv64, fv65, fv66, fv67, fv68, fv69, fv70, fv71, fv72, fv73, fv74, fv75, fv76, fv77, fv78, fv79, fv80, fv81, fv82, fv83, fv84, fv85, fv86, fv87, fv88, fv89, fv90, fv91, fv92, fv93, fv94, fv95, fv96, fv97, fv98, fv99, fv100, fv101, fv102, fv103, fv104, fv105, fv106, fv107, fv108, fv109, fv110, fv111, fv112, fv113, fv114, fv115, fv116, fv117, fv118, fv119, fv120, fv121, fv122, fv123, fv124, fv125, fv126, fv127, fv128, fv129, fv130, fv131, fv132, fv133, fv134, fv135], []⟩ X := by
  conv => arg 2; whnf
  dsimp only
  obtain ⟨X1, hX1⟩ : ∃ Y, Y = X.alloc (.cells #[.int .i64 4, .string (bs own), .string ⟨#[]⟩, .int .i64 0] 31) := ⟨_, rfl⟩
  obtain ⟨S, HSe⟩ : ∃ A, Hid (A = X.heap.size) := ⟨_, rfl⟩
  have HS : Hid (CqAt X1 S 4 own [] 0) := by rw [hX1, HSe.out]; exact blk_new _ _
  have KX1 : Hid (Kept Nil X X1) := by rw [hX1]; exact (Kept.refl _ _).alloc _
  have HT : Hid (TdAt X1 b t D ap oo cp oc) := HI.out.td.kept KX1.out
  have HR : Hid (CqAt X1 R 0 [] [] 0) := HI.out.cr.kept KX1.out
  have hRS : R ≠ S := by have h1 := lt_of_block HI.out.cr; have h2 := HSe.out; omega
  have hbS : b ≠ S := by have h1 := lt_of_block HI.out.td; have h2 := HSe.out; omega
  have hbR : b ≠ R := HI.out.br
  have hSR : S ≠ R := hRS.symm
  have hSb : S ≠ b := hbS.symm
  have hRb : R ≠ b := hbR.symm
  have HwS : Hid (w.heap.size ≤ S) := by show _ ≤ _; rw [HSe.out]; exact HI.out.kp.size
  have HK1 : Hid (Kept Nil w X1) := HI.out.kp.trans KX1.out
  go_upto_region 8 with fail
  rw [← hX1, ← HSe.out]
  clear hX1 HSe
  have q2 : X1.cell? ⟨b, 2, none⟩ = some (.string ⟨#[99, 111, 109, 109, 105, 116]⟩) := by
    have e : X1.cell? ⟨b, 2, none⟩ = some (.string (bs (phW t.ph))) := blk_at HT.out 2 rfl
    rw [hp] at e
    exact e
  have hn : t.next = (swapC (tKey t.id) wDon 1, true) := by unfold Tx.next; simp [hp]
  obtain ⟨Z, hZ⟩ : ∃ Z, Z = ((X1.setCell ⟨S, 2, none⟩ (.string ⟨#[100, 111, 110, 101]⟩)).setCell ⟨S, 3, none⟩ (.int .i64 1)) := ⟨_, rfl⟩
  have HZ : Hid (CqAt Z R 0 [] [] 0 ∧ CqAt Z S (4) (own) ([100, 111, 110, 101]) (1) ∧ Kept Nil w Z) := by rw [hZ]; exact ⟨(CqAt.off (CqAt.off HR.out hRS 2 _) hRS 3 _), (blk_set (blk_set HS.out 2 _) 3 _), ((HK1.out.setNew (p := ⟨S, 2, none⟩) HwS.out _).setNew (p := ⟨S, 3, none⟩) HwS.out _)⟩
  have s0 : X1.cell? ⟨S, 0, none⟩ = some (.int .i64 4) := blk_at HS.out 0 rfl
  have s1 : X1.cell? ⟨S, 1, none⟩ = some (.string (bs own)) := blk_at HS.out 1 rfl
  have s2 : X1.cell? ⟨S, 2, none⟩ = some (.string ⟨#[]⟩) := blk_at HS.out 2 rfl
  have s3 : X1.cell? ⟨S, 3, none⟩ = some (.int .i64 0) := blk_at HS.out 3 rfl
  have sf0 : X1.frozen? ⟨S, 0, none⟩ = false := blk_free HS.out 0
  have sf1 : X1.frozen? ⟨S, 1, none⟩ = false := blk_free HS.out 1
  have sf2 : X1.frozen? ⟨S, 2, none⟩ = false := blk_free HS.out 2
  have sf3 : X1.frozen? ⟨S, 3, none⟩ = false := blk_free HS.out 3
  clear hp
  go_upto_region 32 with fail
  rw [← hZ]
  clear hZ s0 s1 s2 s3 sf0 sf1 sf2 sf3 q2
  obtain ⟨Y, hY⟩ : ∃ Y, Y = ((((Z.setCell ⟨R, 0, none⟩ (.int .i64 4)).setCell ⟨R, 1, none⟩ (.string (bs own))).setCell ⟨R, 2, none⟩ (.string ⟨#[100, 111, 110, 101]⟩)).setCell ⟨R, 3, none⟩ (.int .i64 1)) := ⟨_, rfl⟩
  have HY : Hid (CqAt Y R (4) (own) ([100, 111, 110, 101]) (1) ∧ Kept Nil w Y) := by rw [hY]; exact ⟨CqAt.all HZ.out.1 _ _ _ _, ((((HZ.out.2.2.setNew (p := ⟨R, 0, none⟩) HI.out.wr _).setNew (p := ⟨R, 1, none⟩) HI.out.wr _).setNew (p := ⟨R, 2, none⟩) HI.out.wr _).setNew (p := ⟨R, 3, none⟩) HI.out.wr _)⟩
  have r0 : Z.cell? ⟨R, 0, none⟩ = some (.int .i64 0) := blk_at HZ.out.1 0 rfl
  have r1 : Z.cell? ⟨R, 1, none⟩ = some (.string ⟨#[]⟩) := blk_at HZ.out.1 1 rfl
  have r2 : Z.cell? ⟨R, 2, none⟩ = some (.string ⟨#[]⟩) := blk_at HZ.out.1 2 rfl
  have r3 : Z.cell? ⟨R, 3, none⟩ = some (.int .i64 0) := blk_at HZ.out.1 3 rfl
  have rf0 : Z.frozen? ⟨R, 0, none⟩ = false := blk_free HZ.out.1 0
  have rf1 : Z.frozen? ⟨R, 1, none⟩ = false := blk_free HZ.out.1 1
  have rf2 : Z.frozen? ⟨R, 2, none⟩ = false := blk_free HZ.out.1 2
  have rf3 : Z.frozen? ⟨R, 3, none⟩ = false := blk_free HZ.out.1 3
  have s0 : Z.cell? ⟨S, 0, none⟩ = some (.int .i64 4) := blk_at HZ.out.2.1 0 rfl
  have s1 : Z.cell? ⟨S, 1, none⟩ = some (.string (bs own)) := blk_at HZ.out.2.1 1 rfl
  have s2 : Z.cell? ⟨S, 2, none⟩ = some (.string ⟨#[100, 111, 110, 101]⟩) := blk_at HZ.out.2.1 2 rfl
  have s3 : Z.cell? ⟨S, 3, none⟩ = some (.int .i64 1) := blk_at HZ.out.2.1 3 rfl
  go_wp2
  rw [← hY]
  have j0 : Y.cell? ⟨R, 0, none⟩ = some (.int .i64 4) := blk_at HY.out.1 0 rfl
  have j1 : Y.cell? ⟨R, 1, none⟩ = some (.string (bs own)) := blk_at HY.out.1 1 rfl
  have j2 : Y.cell? ⟨R, 2, none⟩ = some (.string ⟨#[100, 111, 110, 101]⟩) := blk_at HY.out.1 2 rfl
  have j3 : Y.cell? ⟨R, 3, none⟩ = some (.int .i64 1) := blk_at HY.out.1 3 rfl
  exact bodyPost_ret (v := .tuple #[.agg #[.int .i64 4, .string (bs own), .string ⟨#[100, 111, 110, 101]⟩, .int .i64 1], .bool true]) (by simp [results, Tryz.results13, go_sem, j0, j1, j2, j3]) rfl ⟨by rw [hn, HI.out.eo]; rfl, HY.out.2⟩
set_option maxRecDepth 100000 in
set_option maxHeartbeats 4000000 in
theorem dmT7 (w X : World) (b R : Nat) (t : Tx) (D : Dx) (ap oo : Option Addr) (cp oc : Nat) (own oth key : List UInt8) (nn : Nat) (HI : Hid (DmIn w X b R t D ap oo cp oc own oth key nn)) (hp : t.ph = 7) (fv1 fv3 fv8 fv9 fv10 fv11 fv12 fv13 fv14 fv15 fv16 fv17 fv18 fv19 fv20 fv21 fv22 fv23 fv24 fv25 fv26 fv27 fv28 fv29 fv30 fv31 fv32 fv33 fv34 fv35 fv36 fv37 fv38 fv39 fv40 fv41 fv42 fv43 fv44 fv45 fv46 fv47 fv48 fv49 fv50 fv51 fv52 fv53 fv54 fv55 fv56 fv57 fv58 fv59 fv60 fv61 fv62 fv63 fv64 fv65 fv66 fv67 fv68 fv69 fv70 fv71 fv72 fv73 fv74 fv75 fv76 fv77 fv78 fv79 fv80 fv81 fv82 fv83 fv84 fv85 fv86 fv87 fv88 fv89 fv90 fv91 fv92 fv93 fv94 fv95 fv96 fv97 fv98 fv99 fv100 fv101 fv102 fv103 fv104 fv105 fv106 fv107 fv108 fv109 fv110 fv111 fv112 fv113 fv114 fv115 fv116 fv117 fv118 fv119 fv120 fv121 fv122 fv123 fv124 fv125 fv126 fv127 fv128 fv129 fv130 fv131 fv132 fv133 fv134 fv135 : Value) :
    Code.wp Tryz.prog dT7 (bodyPost Tryz.prog Tryz.f13 (NxPost w t.next)) ⟨#[.pointer (some ⟨b, 0, none⟩), fv1, .pointer (some ⟨R, 0, none⟩), fv3, .string (bs own), .string (bs oth), .string (bs key), .int .i64 nn, fv8, fv9, fv10, fv11, fv12, fv13, fv14, fv15, fv16, fv17, fv18, fv19, fv20, fv21, fv22, fv23, fv24, fv25, fv26, fv27, fv28, fv29, fv30, fv31, fv32, fv33, fv34, fv35, fv36, fv37, fv38, fv39, fv40, fv41, fv42, fv43, fv44, fv45, fv46, fv47, fv48, fv49, fv50, fv51, fv52, fv53, fv54, fv55, fv56, fv57, fv58, fv59, fv60, fv61, fv62, fv63, fv64, fv65, fv66, fv67, fv68, fv69, fv70, fv71, fv72, fv73, fv74, fv75, fv76, fv77, fv78, fv79, fv80, fv81, fv82, fv83, fv84, fv85, fv86, fv87, fv88, fv89, fv90, fv91, fv92, fv93, fv94, fv95, fv96, fv97, fv98, fv99, fv100, fv101, fv102, fv103, fv104, fv105, fv106, fv107, fv108, fv109, fv110, fv111, fv112, fv113, fv114, fv115, fv116, fv117, fv118, fv119, fv120, fv121, fv122, fv123, fv124, fv125, fv126, fv127, fv128, fv129, fv130, fv131, fv132, fv133, fv134, fv135], []⟩ X := by
  conv => arg 2; whnf
  dsimp only
  obtain ⟨X1, hX1⟩ : ∃ Y, Y = X.alloc (.cells #[.int .i64 4, .string (bs own), .string ⟨#[]⟩, .int .i64 0] 31) := ⟨_, rfl⟩
  obtain ⟨S, HSe⟩ : ∃ A, Hid (A = X.heap.size) := ⟨_, rfl⟩
  have HS : Hid (CqAt X1 S 4 own [] 0) := by rw [hX1, HSe.out]; exact blk_new _ _
  have KX1 : Hid (Kept Nil X X1) := by rw [hX1]; exact (Kept.refl _ _).alloc _
  have HT : Hid (TdAt X1 b t D ap oo cp oc) := HI.out.td.kept KX1.out
  have HR : Hid (CqAt X1 R 0 [] [] 0) := HI.out.cr.kept KX1.out
  have hRS : R ≠ S := by have h1 := lt_of_block HI.out.cr; have h2 := HSe.out; omega
  have hbS : b ≠ S := by have h1 := lt_of_block HI.out.td; have h2 := HSe.out; omega
  have hbR : b ≠ R := HI.out.br
  have hSR : S ≠ R := hRS.symm
  have hSb : S ≠ b := hbS.symm
  have hRb : R ≠ b := hbR.symm
  have HwS : Hid (w.heap.size ≤ S) := by show _ ≤ _; rw [HSe.out]; exact HI.out.kp.size
  have HK1 : Hid (Kept Nil w X1) := HI.out.kp.trans KX1.out
  go_upto_region 8 with fail
  rw [← hX1, ← HSe.out]
  clear hX1 HSe
  have q2 : X1.cell? ⟨b, 2, none⟩ = some (.string ⟨#[97, 98, 111, 114, 116]⟩) := by
    have e : X1.cell? ⟨b, 2, none⟩ = some (.string (bs (phW t.ph))) := blk_at HT.out 2 rfl
    rw [hp] at e
    exact e
  have hn : t.next = (swapC (tKey t.id) wOff 1, true) := by unfold Tx.next; simp [hp]
  obtain ⟨Z, hZ⟩ : ∃ Z, Z = ((X1.setCell ⟨S, 2, none⟩ (.string ⟨#[111, 102, 102]⟩)).setCell ⟨S, 3, none⟩ (.int .i64 1)) := ⟨_, rfl⟩
  have HZ : Hid (CqAt Z R 0 [] [] 0 ∧ CqAt Z S (4) (own) ([111, 102, 102]) (1) ∧ Kept Nil w Z) := by rw [hZ]; exact ⟨(CqAt.off (CqAt.off HR.out hRS 2 _) hRS 3 _), (blk_set (blk_set HS.out 2 _) 3 _), ((HK1.out.setNew (p := ⟨S, 2, none⟩) HwS.out _).setNew (p := ⟨S, 3, none⟩) HwS.out _)⟩
  have s0 : X1.cell? ⟨S, 0, none⟩ = some (.int .i64 4) := blk_at HS.out 0 rfl
  have s1 : X1.cell? ⟨S, 1, none⟩ = some (.string (bs own)) := blk_at HS.out 1 rfl
  have s2 : X1.cell? ⟨S, 2, none⟩ = some (.string ⟨#[]⟩) := blk_at HS.out 2 rfl
  have s3 : X1.cell? ⟨S, 3, none⟩ = some (.int .i64 0) := blk_at HS.out 3 rfl
  have sf0 : X1.frozen? ⟨S, 0, none⟩ = false := blk_free HS.out 0
  have sf1 : X1.frozen? ⟨S, 1, none⟩ = false := blk_free HS.out 1
  have sf2 : X1.frozen? ⟨S, 2, none⟩ = false := blk_free HS.out 2
  have sf3 : X1.frozen? ⟨S, 3, none⟩ = false := blk_free HS.out 3
  clear hp
  go_upto_region 32 with fail
  rw [← hZ]
  clear hZ s0 s1 s2 s3 sf0 sf1 sf2 sf3 q2
  obtain ⟨Y, hY⟩ : ∃ Y, Y = ((((Z.setCell ⟨R, 0, none⟩ (.int .i64 4)).setCell ⟨R, 1, none⟩ (.string (bs own))).setCell ⟨R, 2, none⟩ (.string ⟨#[111, 102, 102]⟩)).setCell ⟨R, 3, none⟩ (.int .i64 1)) := ⟨_, rfl⟩
  have HY : Hid (CqAt Y R (4) (own) ([111, 102, 102]) (1) ∧ Kept Nil w Y) := by rw [hY]; exact ⟨CqAt.all HZ.out.1 _ _ _ _, ((((HZ.out.2.2.setNew (p := ⟨R, 0, none⟩) HI.out.wr _).setNew (p := ⟨R, 1, none⟩) HI.out.wr _).setNew (p := ⟨R, 2, none⟩) HI.out.wr _).setNew (p := ⟨R, 3, none⟩) HI.out.wr _)⟩
  have r0 : Z.cell? ⟨R, 0, none⟩ = some (.int .i64 0) := blk_at HZ.out.1 0 rfl
  have r1 : Z.cell? ⟨R, 1, none⟩ = some (.string ⟨#[]⟩) := blk_at HZ.out.1 1 rfl
  have r2 : Z.cell? ⟨R, 2, none⟩ = some (.string ⟨#[]⟩) := blk_at HZ.out.1 2 rfl
  have r3 : Z.cell? ⟨R, 3, none⟩ = some (.int .i64 0) := blk_at HZ.out.1 3 rfl
  have rf0 : Z.frozen? ⟨R, 0, none⟩ = false := blk_free HZ.out.1 0
  have rf1 : Z.frozen? ⟨R, 1, none⟩ = false := blk_free HZ.out.1 1
  have rf2 : Z.frozen? ⟨R, 2, none⟩ = false := blk_free HZ.out.1 2
  have rf3 : Z.frozen? ⟨R, 3, none⟩ = false := blk_free HZ.out.1 3
  have s0 : Z.cell? ⟨S, 0, none⟩ = some (.int .i64 4) := blk_at HZ.out.2.1 0 rfl
  have s1 : Z.cell? ⟨S, 1, none⟩ = some (.string (bs own)) := blk_at HZ.out.2.1 1 rfl
  have s2 : Z.cell? ⟨S, 2, none⟩ = some (.string ⟨#[111, 102, 102]⟩) := blk_at HZ.out.2.1 2 rfl
  have s3 : Z.cell? ⟨S, 3, none⟩ = some (.int .i64 1) := blk_at HZ.out.2.1 3 rfl
  go_wp2
  rw [← hY]
  have j0 : Y.cell? ⟨R, 0, none⟩ = some (.int .i64 4) := blk_at HY.out.1 0 rfl
  have j1 : Y.cell? ⟨R, 1, none⟩ = some (.string (bs own)) := blk_at HY.out.1 1 rfl
  have j2 : Y.cell? ⟨R, 2, none⟩ = some (.string ⟨#[111, 102, 102]⟩) := blk_at HY.out.1 2 rfl
  have j3 : Y.cell? ⟨R, 3, none⟩ = some (.int .i64 1) := blk_at HY.out.1 3 rfl
  exact bodyPost_ret (v := .tuple #[.agg #[.int .i64 4, .string (bs own), .string ⟨#[111, 102, 102]⟩, .int .i64 1], .bool true]) (by simp [results, Tryz.results13, go_sem, j0, j1, j2, j3]) rfl ⟨by rw [hn, HI.out.eo]; rfl, HY.out.2⟩
set_option maxRecDepth 100000 in
set_option maxHeartbeats 4000000 in
theorem dmT10 (w X : World) (b R : Nat) (t : Tx) (D : Dx) (ap oo : Option Addr) (cp oc : Nat) (own oth key : List UInt8) (nn : Nat) (HI : Hid (DmIn w X b R t D ap oo cp oc own oth key nn)) (hp : t.ph = 10) (fv1 fv3 fv8 fv9 fv10 fv11 fv12 fv13 fv14 fv15 fv16 fv17 fv18 fv19 fv20 fv21 fv22 fv23 fv24 fv25 fv26 fv27 fv28 fv29 fv30 fv31 fv32 fv33 fv34 fv35 fv36 fv37 fv38 fv39 fv40 fv41 fv42 fv43 fv44 fv45 fv46 fv47 fv48 fv49 fv50 fv51 fv52 fv53 fv54 fv55 fv56 fv57 fv58 fv59 fv60 fv61 fv62 fv63 fv64 fv65 fv66 fv67 fv68 fv69 fv70 fv71 fv72 fv73 fv74 fv75 fv76 fv77 fv78 fv79 fv80 fv81 fv82 fv83 fv84 fv85 fv86 fv87 fv88 fv89 fv90 fv91 fv92 fv93 fv94 fv95 fv96 fv97 fv98 fv99 fv100 fv101 fv102 fv103 fv104 fv105 fv106 fv107 fv108 fv109 fv110 fv111 fv112 fv113 fv114 fv115 fv116 fv117 fv118 fv119 fv120 fv121 fv122 fv123 fv124 fv125 fv126 fv127 fv128 fv129 fv130 fv131 fv132 fv133 fv134 fv135 : Value) :
    Code.wp Tryz.prog dT7 (bodyPost Tryz.prog Tryz.f13 (NxPost w t.next)) ⟨#[.pointer (some ⟨b, 0, none⟩), fv1, .pointer (some ⟨R, 0, none⟩), fv3, .string (bs own), .string (bs oth), .string (bs key), .int .i64 nn, fv8, fv9, fv10, fv11, fv12, fv13, fv14, fv15, fv16, fv17, fv18, fv19, fv20, fv21, fv22, fv23, fv24, fv25, fv26, fv27, fv28, fv29, fv30, fv31, fv32, fv33, fv34, fv35, fv36, fv37, fv38, fv39, fv40, fv41, fv42, fv43, fv44, fv45, fv46, fv47, fv48, fv49, fv50, fv51, fv52, fv53, fv54, fv55, fv56, fv57, fv58, fv59, fv60, fv61, fv62, fv63, fv64, fv65, fv66, fv67, fv68, fv69, fv70, fv71, fv72, fv73, fv74, fv75, fv76, fv77, fv78, fv79, fv80, fv81, fv82, fv83, fv84, fv85, fv86, fv87, fv88, fv89, fv90, fv91, fv92, fv93, fv94, fv95, fv96, fv97, fv98, fv99, fv100, fv101, fv102, fv103, fv104, fv105, fv106, fv107, fv108, fv109, fv110, fv111, fv112, fv113, fv114, fv115, fv116, fv117, fv118, fv119, fv120, fv121, fv122, fv123, fv124, fv125, fv126, fv127, fv128, fv129, fv130, fv131, fv132, fv133, fv134, fv135], []⟩ X := by
  conv => arg 2; whnf
  dsimp only
  obtain ⟨X1, hX1⟩ : ∃ Y, Y = X.alloc (.cells #[.int .i64 4, .string (bs own), .string ⟨#[]⟩, .int .i64 0] 31) := ⟨_, rfl⟩
  obtain ⟨S, HSe⟩ : ∃ A, Hid (A = X.heap.size) := ⟨_, rfl⟩
  have HS : Hid (CqAt X1 S 4 own [] 0) := by rw [hX1, HSe.out]; exact blk_new _ _
  have KX1 : Hid (Kept Nil X X1) := by rw [hX1]; exact (Kept.refl _ _).alloc _
  have HT : Hid (TdAt X1 b t D ap oo cp oc) := HI.out.td.kept KX1.out
  have HR : Hid (CqAt X1 R 0 [] [] 0) := HI.out.cr.kept KX1.out
  have hRS : R ≠ S := by have h1 := lt_of_block HI.out.cr; have h2 := HSe.out; omega
  have hbS : b ≠ S := by have h1 := lt_of_block HI.out.td; have h2 := HSe.out; omega
  have hbR : b ≠ R := HI.out.br
  have hSR : S ≠ R := hRS.symm
  have hSb : S ≠ b := hbS.symm
  have hRb : R ≠ b := hbR.symm
  have HwS : Hid (w.heap.size ≤ S) := by show _ ≤ _; rw [HSe.out]; exact HI.out.kp.size
  have HK1 : Hid (Kept Nil w X1) := HI.out.kp.trans KX1.out
  go_upto_region 8 with fail
  rw [← hX1, ← HSe.out]
  clear hX1 HSe
  have q2 : X1.cell? ⟨b, 2, none⟩ = some (.string ⟨#[]⟩) := by
    have e : X1.cell? ⟨b, 2, none⟩ = some (.string (bs (phW t.ph))) := blk_at HT.out 2 rfl
    rw [hp] at e
    exact e
  have hn : t.next = (⟨0, [], [], 0⟩, false) := by unfold Tx.next; simp [hp]
  clear hp
  obtain ⟨Y, hY⟩ : ∃ Y, Y = ((((X1.setCell ⟨R, 0, none⟩ (.int .i64 0)).setCell ⟨R, 1, none⟩ (.string ⟨#[]⟩)).setCell ⟨R, 2, none⟩ (.string ⟨#[]⟩)).setCell ⟨R, 3, none⟩ (.int .i64 0)) := ⟨_, rfl⟩
  have HY : Hid (CqAt Y R (0) ([]) ([]) (0) ∧ Kept Nil w Y) := by rw [hY]; exact ⟨CqAt.all HR.out _ _ _ _, ((((HK1.out.setNew (p := ⟨R, 0, none⟩) HI.out.wr _).setNew (p := ⟨R, 1, none⟩) HI.out.wr _).setNew (p := ⟨R, 2, none⟩) HI.out.wr _).setNew (p := ⟨R, 3, none⟩) HI.out.wr _)⟩
  have r0 : X1.cell? ⟨R, 0, none⟩ = some (.int .i64 0) := blk_at HR.out 0 rfl
  have r1 : X1.cell? ⟨R, 1, none⟩ = some (.string ⟨#[]⟩) := blk_at HR.out 1 rfl
  have r2 : X1.cell? ⟨R, 2, none⟩ = some (.string ⟨#[]⟩) := blk_at HR.out 2 rfl
  have r3 : X1.cell? ⟨R, 3, none⟩ = some (.int .i64 0) := blk_at HR.out 3 rfl
  have rf0 : X1.frozen? ⟨R, 0, none⟩ = false := blk_free HR.out 0
  have rf1 : X1.frozen? ⟨R, 1, none⟩ = false := blk_free HR.out 1
  have rf2 : X1.frozen? ⟨R, 2, none⟩ = false := blk_free HR.out 2
  have rf3 : X1.frozen? ⟨R, 3, none⟩ = false := blk_free HR.out 3
  go_wp2
  rw [← hY]
  have j0 : Y.cell? ⟨R, 0, none⟩ = some (.int .i64 0) := blk_at HY.out.1 0 rfl
  have j1 : Y.cell? ⟨R, 1, none⟩ = some (.string ⟨#[]⟩) := blk_at HY.out.1 1 rfl
  have j2 : Y.cell? ⟨R, 2, none⟩ = some (.string ⟨#[]⟩) := blk_at HY.out.1 2 rfl
  have j3 : Y.cell? ⟨R, 3, none⟩ = some (.int .i64 0) := blk_at HY.out.1 3 rfl
  exact bodyPost_ret (v := .tuple #[.agg #[.int .i64 0, .string ⟨#[]⟩, .string ⟨#[]⟩, .int .i64 0], .bool false]) (by simp [results, Tryz.results13, go_sem, j0, j1, j2, j3]) rfl ⟨by rw [hn]; rfl, HY.out.2⟩
set_option maxRecDepth 100000 in
set_option maxHeartbeats 4000000 in
theorem dmT2 (w X : World) (b R : Nat) (t : Tx) (D : Dx) (ap oo : Option Addr) (cp oc : Nat) (own oth key : List UInt8) (nn : Nat) (HI : Hid (DmIn w X b R t D ap oo cp oc own oth key nn)) (hp : t.ph = 2) (fv1 fv3 fv8 fv9 fv10 fv11 fv12 fv13 fv14 fv15 fv16 fv17 fv18 fv19 fv20 fv21 fv22 fv23 fv24 fv25 fv26 fv27 fv28 fv29 fv30 fv31 fv32 fv33 fv34 fv35 fv36 fv37 fv38 fv39 fv40 fv41 fv42 fv43 fv44 fv45 fv46 fv47 fv48 fv49 fv50 fv51 fv52 fv53 fv54 fv55 fv56 fv57 fv58 fv59 fv60 fv61 fv62 fv63 fv64 fv65 fv66 fv67 fv68 fv69 fv70 fv71 fv72 fv73 fv74 fv75 fv76 fv77 fv78 fv79 fv80 fv81 fv82 fv83 fv84 fv85 fv86 fv87 fv88 fv89 fv90 fv91 fv92 fv93 fv94 fv95 fv96 fv97 fv98 fv99 fv100 fv101 fv102 fv103 fv104 fv105 fv106 fv107 fv108 fv109 fv110 fv111 fv112 fv113 fv114 fv115 fv116 fv117 fv118 fv119 fv120 fv121 fv122 fv123 fv124 fv125 fv126 fv127 fv128 fv129 fv130 fv131 fv132 fv133 fv134 fv135 : Value) :
    Code.wp Tryz.prog dT7 (bodyPost Tryz.prog Tryz.f13 (NxPost w t.next)) ⟨#[.pointer (some ⟨b, 0, none⟩), fv1, .pointer (some ⟨R, 0, none⟩), fv3, .string (bs own), .string (bs oth), .string (bs key), .int .i64 nn, fv8, fv9, fv10, fv11, fv12, fv13, fv14, fv15, fv16, fv17, fv18, fv19, fv20, fv21, fv22, fv23, fv24, fv25, fv26, fv27, fv28, fv29, fv30, fv31, fv32, fv33, fv34, fv35, fv36, fv37, fv38, fv39, fv40, fv41, fv42, fv43, fv44, fv45, fv46, fv47, fv48, fv49, fv50, fv51, fv52, fv53, fv54, fv55, fv56, fv57, fv58, fv59, fv60, fv61, fv62, fv63, fv64, fv65, fv66, fv67, fv68, fv69, fv70, fv71, fv72, fv73, fv74, fv75, fv76, fv77, fv78, fv79, fv80, fv81, fv82, fv83, fv84, fv85, fv86, fv87, fv88, fv89, fv90, fv91, fv92, fv93, fv94, fv95, fv96, fv97, fv98, fv99, fv100, fv101, fv102, fv103, fv104, fv105, fv106, fv107, fv108, fv109, fv110, fv111, fv112, fv113, fv114, fv115, fv116, fv117, fv118, fv119, fv120, fv121, fv122, fv123, fv124, fv125, fv126, fv127, fv128, fv129, fv130, fv131, fv132, fv133, fv134, fv135], []⟩ X := by
  conv => arg 2; whnf
  dsimp only
  obtain ⟨X1, hX1⟩ : ∃ Y, Y = X.alloc (.cells #[.int .i64 4, .string (bs own), .string ⟨#[]⟩, .int .i64 0] 31) := ⟨_, rfl⟩
  obtain ⟨S, HSe⟩ : ∃ A, Hid (A = X.heap.size) := ⟨_, rfl⟩
  have HS : Hid (CqAt X1 S 4 own [] 0) := by rw [hX1, HSe.out]; exact blk_new _ _
  have KX1 : Hid (Kept Nil X X1) := by rw [hX1]; exact (Kept.refl _ _).alloc _
  have HT : Hid (TdAt X1 b t D ap oo cp oc) := HI.out.td.kept KX1.out
  have HR : Hid (CqAt X1 R 0 [] [] 0) := HI.out.cr.kept KX1.out
  have hRS : R ≠ S := by have h1 := lt_of_block HI.out.cr; have h2 := HSe.out; omega
  have hbS : b ≠ S := by have h1 := lt_of_block HI.out.td; have h2 := HSe.out; omega
  have hbR : b ≠ R := HI.out.br
  have hSR : S ≠ R := hRS.symm
  have hSb : S ≠ b := hbS.symm
  have hRb : R ≠ b := hbR.symm
  have HwS : Hid (w.heap.size ≤ S) := by show _ ≤ _; rw [HSe.out]; exact HI.out.kp.size
  have HK1 : Hid (Kept Nil w X1) := HI.out.kp.trans KX1.out
  go_upto_region 8 with fail
  rw [← hX1, ← HSe.out]
  clear hX1 HSe
  have q2 : X1.cell? ⟨b, 2, none⟩ = some (.string ⟨#[104, 111, 108, 100]⟩) := by
    have e : X1.cell? ⟨b, 2, none⟩ = some (.string (bs (phW t.ph))) := blk_at HT.out 2 rfl
    rw [hp] at e
    exact e
  have hn : t.next = (swapC t.key (Tx.numT t.sn.n t.id t.thenZ) t.vr, true) := by unfold Tx.next; simp [hp]
  have HSN : Hid (D.sn = t.sn ∧ D.v = t.vr) := ⟨HI.out.sm.sn (by omega), HI.out.sm.v (by omega)⟩
  obtain ⟨pa, hpa, _, _, c1⟩ := (HI.out.pr) t.at' HI.out.ok.at'
  have hpk : t.part = t.ps[t.at']'(HI.out.ok.at') := by unfold Tx.part; rw [List.getElem?_eq_getElem HI.out.ok.at']; rfl
  rw [← hpk] at c1
  obtain ⟨pz, Hpz⟩ : ∃ x, Hid (x = t.part.a) := ⟨_, rfl⟩
  rw [← Hpz.out] at c1
  subst hpa
  have hh := HI.out.ok.hold hp
  obtain ⟨z, hz⟩ := Int.eq_ofNat_of_zero_le hh.1
  have HZe : Hid ((z : Int) = (D.sn.n : Int) + pz ∧ t.thenZ = (z : Int)) := ⟨by rw [← hz, HSN.out.1, Hpz.out]; rfl, hz⟩
  have hz9 : z ≤ 999999999 := by have := hh.2; omega
  have HPC : Hid (X1.cell? ⟨(pa.add (t.at' * 2)).block, (pa.add (t.at' * 2)).off + 1, none⟩ = some (.int .i64 pz)) := cell_kept KX1.out (fun _ x => x) c1
  have hid9 : t.id ≤ 999999999 := by have := HI.out.ok.id; omega
  have hn9 : D.sn.n ≤ 999999999 := HI.out.sm.ok.n
  have hat : (t.at' : Int) < t.ps.length := by have := HI.out.ok.at'; omega
  have hpb := (HI.out.ok.keys t.part (by rw [hpk]; exact List.getElem_mem _)).2.2
  have hwr : IntKind.i64.wrap ((D.sn.n : Int) + pz) = (z : Int) := by
    have h1 := HZe.out.1
    rw [← Hpz.out] at hpb
    rw [IntKind.wrap_i64]
    omega
  clear hh hz c1 hpk hpb
  obtain ⟨tx, Htx⟩ : ∃ x, Hid (x = hTx D.sn.n t.id z) := ⟨_, rfl⟩
  have TX : ∀ Y, Calls Tryz.prog 56 #[.agg #[.int .i64 D.sn.n, .int .i64 t.id, .int .i64 z]] Y fun e w' => e = .returned (.string (bs tx)) ∧ Kept Nil Y w' := fun Y => by rw [Htx.out]; exact dtext_any D.sn.n t.id z hn9 hid9 hz9 Y
  obtain ⟨X2, hX2⟩ : ∃ Y, Y = (X1.alloc (.cells #[.int .i64 D.sn.n, .int .i64 t.id, .int .i64 z] 43)).drew := ⟨_, rfl⟩
  obtain ⟨H, HHe⟩ : ∃ A, Hid (A = X1.heap.size) := ⟨_, rfl⟩
  have KX2 : Hid (Kept Nil X1 X2) := by rw [hX2]; exact ((Kept.refl _ _).alloc _).drew
  have HH : Hid (X2.heap[H]? = some (.cells #[.int .i64 D.sn.n, .int .i64 t.id, .int .i64 z] 43 (0, 0))) := by rw [hX2, HHe.out]; exact blk_new _ _
  have hSH : S ≠ H := by have h1 := lt_of_block HS.out; have h2 := HHe.out; omega
  have hHS : H ≠ S := hSH.symm
  clear hp
  have q0 : X1.cell? ⟨b, 0, none⟩ = some (.int .i64 t.id) := blk_at HT.out 0 rfl
  have q1 : X1.cell? ⟨b, 1, none⟩ = some (.slice (some pa) t.ps.length cp) := blk_at HT.out 1 rfl
  have q3 : X1.cell? ⟨b, 3, none⟩ = some (.int .i64 t.at') := blk_at HT.out 3 rfl
  have q5 : X1.cell? ⟨b, 5, none⟩ = some (.int .i64 D.sn.n) := blk_at HT.out 5 rfl
  have pc := HPC.out
  have hlb : b < X1.heap.size := lt_of_block HT.out
  have hlS : S < X1.heap.size := lt_of_block HS.out
  have hlp0 := World.block_lt_of_cell? X1 _ HPC.out
  have hlp : (pa.add (t.at' * 2)).block < X1.heap.size := hlp0
  clear hlp0
  go_upto_region 16 with fail
  go_region
  go_upto_region 17 with fail
  rw [← hX2, ← HHe.out]
  clear hX2 HHe q2
  have HT2 : Hid (TdAt X2 b t D _ oo cp oc) := HT.out.kept KX2.out
  have HS2 : Hid (CqAt X2 S 4 own [] 0) := HS.out.kept KX2.out
  have HR2 : Hid (CqAt X2 R 0 [] [] 0) := HR.out.kept KX2.out
  have HK2 : Hid (Kept Nil w X2) := HK1.out.trans KX2.out
  have SS : ∀ Y, Kept Nil X2 Y → (Y.cell? ⟨b, 8, none⟩ = some (.int .i64 D.v) ∧ Y.cell? ⟨H, 0, none⟩ = some (.int .i64 D.sn.n) ∧ Y.cell? ⟨H, 1, none⟩ = some (.int .i64 t.id) ∧ Y.cell? ⟨H, 2, none⟩ = some (.int .i64 z)) := fun Y kY => ⟨blk_at (HT2.out.kept kY) 8 rfl, blk_at (kY.block _ _ HH.out (fun x => x)) 0 rfl, blk_at (kY.block _ _ HH.out (fun x => x)) 1 rfl, blk_at (kY.block _ _ HH.out (fun x => x)) 2 rfl⟩
  have SZ : ∀ Y, Kept Nil X2 Y → (((((Y.setCell ⟨S, 0, none⟩ (.int .i64 4)).setCell ⟨S, 1, none⟩ (.string (bs key))).setCell ⟨S, 2, none⟩ (.string (bs tx))).setCell ⟨S, 3, none⟩ (.int .i64 D.v)).cell? ⟨b, 8, none⟩ = some (.int .i64 D.v) ∧ ((((Y.setCell ⟨S, 0, none⟩ (.int .i64 4)).setCell ⟨S, 1, none⟩ (.string (bs key))).setCell ⟨S, 2, none⟩ (.string (bs tx))).setCell ⟨S, 3, none⟩ (.int .i64 D.v)).cell? ⟨H, 0, none⟩ = some (.int .i64 D.sn.n) ∧ ((((Y.setCell ⟨S, 0, none⟩ (.int .i64 4)).setCell ⟨S, 1, none⟩ (.string (bs key))).setCell ⟨S, 2, none⟩ (.string (bs tx))).setCell ⟨S, 3, none⟩ (.int .i64 D.v)).cell? ⟨H, 1, none⟩ = some (.int .i64 t.id) ∧ ((((Y.setCell ⟨S, 0, none⟩ (.int .i64 4)).setCell ⟨S, 1, none⟩ (.string (bs key))).setCell ⟨S, 2, none⟩ (.string (bs tx))).setCell ⟨S, 3, none⟩ (.int .i64 D.v)).cell? ⟨H, 2, none⟩ = some (.int .i64 z)) := fun Y kY => ⟨blk_at (blk_other (a := ⟨S, 3, none⟩) (blk_other (a := ⟨S, 2, none⟩) (blk_other (a := ⟨S, 1, none⟩) (blk_other (a := ⟨S, 0, none⟩) (HT2.out.kept kY) hbS _) hbS _) hbS _) hbS _) 8 rfl, blk_at (blk_other (a := ⟨S, 3, none⟩) (blk_other (a := ⟨S, 2, none⟩) (blk_other (a := ⟨S, 1, none⟩) (blk_other (a := ⟨S, 0, none⟩) (kY.block _ _ HH.out (fun x => x)) hHS _) hHS _) hHS _) hHS _) 0 rfl, blk_at (blk_other (a := ⟨S, 3, none⟩) (blk_other (a := ⟨S, 2, none⟩) (blk_other (a := ⟨S, 1, none⟩) (blk_other (a := ⟨S, 0, none⟩) (kY.block _ _ HH.out (fun x => x)) hHS _) hHS _) hHS _) hHS _) 1 rfl, blk_at (blk_other (a := ⟨S, 3, none⟩) (blk_other (a := ⟨S, 2, none⟩) (blk_other (a := ⟨S, 1, none⟩) (blk_other (a := ⟨S, 0, none⟩) (kY.block _ _ HH.out (fun x => x)) hHS _) hHS _) hHS _) hHS _) 2 rfl⟩
  have s0 := SS X2 (Kept.refl _ _)
  go_region_held3 (fun w' => w'.cell? ⟨b, 8, none⟩ = some (.int .i64 D.v) ∧ w'.cell? ⟨H, 0, none⟩ = some (.int .i64 D.sn.n) ∧ w'.cell? ⟨H, 1, none⟩ = some (.int .i64 t.id) ∧ w'.cell? ⟨H, 2, none⟩ = some (.int .i64 z)) (first | (with_reducible assumption) | (refine SS _ ?_; repeat (first | (with_reducible exact Ka.out) | (with_reducible exact Kept.refl _ _) | (with_reducible refine Kept.drew ?_)))) (first | (go_at_call 56; go_must (go_fit (TX _)); rintro _ w1 ⟨rfl, ka⟩; have Ka : Hid (Kept Nil X2 w1) := Kept.trans (by repeat (first | exact Kept.refl _ _ | refine Kept.drew ?_)) ka; have sa := SS w1 Ka.out; have sz := SZ w1 Ka.out; have sc0 : w1.cell? ⟨S, 0, none⟩ = some (.int .i64 4) := blk_at (HS2.out.kept Ka.out) 0 rfl; have sfz0 : w1.frozen? ⟨S, 0, none⟩ = false := blk_free (HS2.out.kept Ka.out) 0; have sc1 : w1.cell? ⟨S, 1, none⟩ = some (.string (bs own)) := blk_at (HS2.out.kept Ka.out) 1 rfl; have sfz1 : w1.frozen? ⟨S, 1, none⟩ = false := blk_free (HS2.out.kept Ka.out) 1; have sc2 : w1.cell? ⟨S, 2, none⟩ = some (.string ⟨#[]⟩) := blk_at (HS2.out.kept Ka.out) 2 rfl; have sfz2 : w1.frozen? ⟨S, 2, none⟩ = false := blk_free (HS2.out.kept Ka.out) 2; have sc3 : w1.cell? ⟨S, 3, none⟩ = some (.int .i64 0) := blk_at (HS2.out.kept Ka.out) 3 rfl; have sfz3 : w1.frozen? ⟨S, 3, none⟩ = false := blk_free (HS2.out.kept Ka.out) 3; clear ka))
  all_goals
    obtain ⟨Z, hZ⟩ : ∃ Z, Z = ((((w1.setCell ⟨S, 0, none⟩ (.int .i64 4)).setCell ⟨S, 1, none⟩ (.string (bs key))).setCell ⟨S, 2, none⟩ (.string (bs tx))).setCell ⟨S, 3, none⟩ (.int .i64 D.v)) := ⟨_, rfl⟩
    have HZ : Hid (CqAt Z R 0 [] [] 0 ∧ CqAt Z S (4) (key) (tx) (D.v) ∧ Kept Nil w Z) := by rw [hZ]; exact ⟨(((CqAt.off (CqAt.off (CqAt.off (CqAt.off (HR2.out.kept Ka.out) hRS 0 _) hRS 1 _) hRS 2 _) hRS 3 _))), CqAt.all (HS2.out.kept Ka.out) _ _ _ _, (((((HK2.out.trans Ka.out).setNew (p := ⟨S, 0, none⟩) HwS.out _).setNew (p := ⟨S, 1, none⟩) HwS.out _).setNew (p := ⟨S, 2, none⟩) HwS.out _).setNew (p := ⟨S, 3, none⟩) HwS.out _)⟩
    go_upto_region 32 with fail
    rw [← hZ]
    clear hZ sa sz s0 TX SS SZ sc0 sc1 sc2 sc3 sfz0 sfz1 sfz2 sfz3
    obtain ⟨Y, hY⟩ : ∃ Y, Y = ((((Z.setCell ⟨R, 0, none⟩ (.int .i64 4)).setCell ⟨R, 1, none⟩ (.string (bs key))).setCell ⟨R, 2, none⟩ (.string (bs tx))).setCell ⟨R, 3, none⟩ (.int .i64 D.v)) := ⟨_, rfl⟩
    have HY : Hid (CqAt Y R (4) (key) (tx) (D.v) ∧ Kept Nil w Y) := by rw [hY]; exact ⟨CqAt.all HZ.out.1 _ _ _ _, ((((HZ.out.2.2.setNew (p := ⟨R, 0, none⟩) HI.out.wr _).setNew (p := ⟨R, 1, none⟩) HI.out.wr _).setNew (p := ⟨R, 2, none⟩) HI.out.wr _).setNew (p := ⟨R, 3, none⟩) HI.out.wr _)⟩
    have r0 : Z.cell? ⟨R, 0, none⟩ = some (.int .i64 0) := blk_at HZ.out.1 0 rfl
    have r1 : Z.cell? ⟨R, 1, none⟩ = some (.string ⟨#[]⟩) := blk_at HZ.out.1 1 rfl
    have r2 : Z.cell? ⟨R, 2, none⟩ = some (.string ⟨#[]⟩) := blk_at HZ.out.1 2 rfl
    have r3 : Z.cell? ⟨R, 3, none⟩ = some (.int .i64 0) := blk_at HZ.out.1 3 rfl
    have rf0 : Z.frozen? ⟨R, 0, none⟩ = false := blk_free HZ.out.1 0
    have rf1 : Z.frozen? ⟨R, 1, none⟩ = false := blk_free HZ.out.1 1
    have rf2 : Z.frozen? ⟨R, 2, none⟩ = false := blk_free HZ.out.1 2
    have rf3 : Z.frozen? ⟨R, 3, none⟩ = false := blk_free HZ.out.1 3
    have s0 : Z.cell? ⟨S, 0, none⟩ = some (.int .i64 4) := blk_at HZ.out.2.1 0 rfl
    have s1 : Z.cell? ⟨S, 1, none⟩ = some (.string (bs key)) := blk_at HZ.out.2.1 1 rfl
    have s2 : Z.cell? ⟨S, 2, none⟩ = some (.string (bs tx)) := blk_at HZ.out.2.1 2 rfl
    have s3 : Z.cell? ⟨S, 3, none⟩ = some (.int .i64 D.v) := blk_at HZ.out.2.1 3 rfl
    go_wp2
    rw [← hY]
    have j0 : Y.cell? ⟨R, 0, none⟩ = some (.int .i64 4) := blk_at HY.out.1 0 rfl
    have j1 : Y.cell? ⟨R, 1, none⟩ = some (.string (bs key)) := blk_at HY.out.1 1 rfl
    have j2 : Y.cell? ⟨R, 2, none⟩ = some (.string (bs tx)) := blk_at HY.out.1 2 rfl
    have j3 : Y.cell? ⟨R, 3, none⟩ = some (.int .i64 D.v) := blk_at HY.out.1 3 rfl
    exact bodyPost_ret (v := .tuple #[.agg #[.int .i64 4, .string (bs key), .string (bs tx), .int .i64 D.v], .bool true]) (by simp [results, Tryz.results13, go_sem, j0, j1, j2, j3]) rfl ⟨by rw [hn, HI.out.ek, ← HSN.out.1, ← HSN.out.2, HZe.out.2, numT_h, ← Htx.out]; rfl, HY.out.2⟩
set_option maxRecDepth 100000 in
set_option maxHeartbeats 4000000 in
theorem dmT5 (w X : World) (b R : Nat) (t : Tx) (D : Dx) (ap oo : Option Addr) (cp oc : Nat) (own oth key : List UInt8) (nn : Nat) (HI : Hid (DmIn w X b R t D ap oo cp oc own oth key nn)) (hp : t.ph = 5) (fv1 fv3 fv8 fv9 fv10 fv11 fv12 fv13 fv14 fv15 fv16 fv17 fv18 fv19 fv20 fv21 fv22 fv23 fv24 fv25 fv26 fv27 fv28 fv29 fv30 fv31 fv32 fv33 fv34 fv35 fv36 fv37 fv38 fv39 fv40 fv41 fv42 fv43 fv44 fv45 fv46 fv47 fv48 fv49 fv50 fv51 fv52 fv53 fv54 fv55 fv56 fv57 fv58 fv59 fv60 fv61 fv62 fv63 fv64 fv65 fv66 fv67 fv68 fv69 fv70 fv71 fv72 fv73 fv74 fv75 fv76 fv77 fv78 fv79 fv80 fv81 fv82 fv83 fv84 fv85 fv86 fv87 fv88 fv89 fv90 fv91 fv92 fv93 fv94 fv95 fv96 fv97 fv98 fv99 fv100 fv101 fv102 fv103 fv104 fv105 fv106 fv107 fv108 fv109 fv110 fv111 fv112 fv113 fv114 fv115 fv116 fv117 fv118 fv119 fv120 fv121 fv122 fv123 fv124 fv125 fv126 fv127 fv128 fv129 fv130 fv131 fv132 fv133 fv134 fv135 : Value) :
    Code.wp Tryz.prog dT7 (bodyPost Tryz.prog Tryz.f13 (NxPost w t.next)) ⟨#[.pointer (some ⟨b, 0, none⟩), fv1, .pointer (some ⟨R, 0, none⟩), fv3, .string (bs own), .string (bs oth), .string (bs key), .int .i64 nn, fv8, fv9, fv10, fv11, fv12, fv13, fv14, fv15, fv16, fv17, fv18, fv19, fv20, fv21, fv22, fv23, fv24, fv25, fv26, fv27, fv28, fv29, fv30, fv31, fv32, fv33, fv34, fv35, fv36, fv37, fv38, fv39, fv40, fv41, fv42, fv43, fv44, fv45, fv46, fv47, fv48, fv49, fv50, fv51, fv52, fv53, fv54, fv55, fv56, fv57, fv58, fv59, fv60, fv61, fv62, fv63, fv64, fv65, fv66, fv67, fv68, fv69, fv70, fv71, fv72, fv73, fv74, fv75, fv76, fv77, fv78, fv79, fv80, fv81, fv82, fv83, fv84, fv85, fv86, fv87, fv88, fv89, fv90, fv91, fv92, fv93, fv94, fv95, fv96, fv97, fv98, fv99, fv100, fv101, fv102, fv103, fv104, fv105, fv106, fv107, fv108, fv109, fv110, fv111, fv112, fv113, fv114, fv115, fv116, fv117, fv118, fv119, fv120, fv121, fv122, fv123, fv124, fv125, fv126, fv127, fv128, fv129, fv130, fv131, fv132, fv133, fv134, fv135], []⟩ X := by
  conv => arg 2; whnf
  dsimp only
  obtain ⟨X1, hX1⟩ : ∃ Y, Y = X.alloc (.cells #[.int .i64 4, .string (bs own), .string ⟨#[]⟩, .int .i64 0] 31) := ⟨_, rfl⟩
  obtain ⟨S, HSe⟩ : ∃ A, Hid (A = X.heap.size) := ⟨_, rfl⟩
  have HS : Hid (CqAt X1 S 4 own [] 0) := by rw [hX1, HSe.out]; exact blk_new _ _
  have KX1 : Hid (Kept Nil X X1) := by rw [hX1]; exact (Kept.refl _ _).alloc _
  have HT : Hid (TdAt X1 b t D ap oo cp oc) := HI.out.td.kept KX1.out
  have HR : Hid (CqAt X1 R 0 [] [] 0) := HI.out.cr.kept KX1.out
  have hRS : R ≠ S := by have h1 := lt_of_block HI.out.cr; have h2 := HSe.out; omega
  have hbS : b ≠ S := by have h1 := lt_of_block HI.out.td; have h2 := HSe.out; omega
  have hbR : b ≠ R := HI.out.br
  have hSR : S ≠ R := hRS.symm
  have hSb : S ≠ b := hbS.symm
  have hRb : R ≠ b := hbR.symm
  have HwS : Hid (w.heap.size ≤ S) := by show _ ≤ _; rw [HSe.out]; exact HI.out.kp.size
  have HK1 : Hid (Kept Nil w X1) := HI.out.kp.trans KX1.out
  go_upto_region 8 with fail
  rw [← hX1, ← HSe.out]
  clear hX1 HSe
  have q2 : X1.cell? ⟨b, 2, none⟩ = some (.string ⟨#[102, 114, 101, 101]⟩) := by
    have e : X1.cell? ⟨b, 2, none⟩ = some (.string (bs (phW t.ph))) := blk_at HT.out 2 rfl
    rw [hp] at e
    exact e
  have hn : t.next = (swapC t.key (Tx.numT (t.sn.settled t.hd) 0 0) t.vr, true) := by unfold Tx.next; simp [hp]
  have HSN : Hid (D.sn = t.sn ∧ D.v = t.vr) := ⟨HI.out.sm.sn (by omega), HI.out.sm.v (by omega)⟩
  have HND : Hid (nn = t.sn.settled t.hd) := by
    have h1 := HI.out.en
    have h2 := HI.out.sm.d5 hp
    have h3 := HI.out.sm.b (by omega)
    show nn = _
    rw [h1, h2, HSN.out.1]
    unfold Hd.settled
    by_cases c : t.hd = true
    · rw [if_pos c, if_pos ⟨c, h3⟩]
    · rw [if_neg c, if_neg (fun e => c e.1)]
  have hn9 : nn ≤ 999999999 := by
    have h1 := HI.out.en
    have h2 := HI.out.sm.ok.n
    have h3 := HI.out.sm.ok.t
    rw [h1]
    split <;> omega
  obtain ⟨tx, Htx⟩ : ∃ x, Hid (x = hTx nn 0 0) := ⟨_, rfl⟩
  have TX : ∀ Y, Calls Tryz.prog 56 #[.agg #[.int .i64 nn, .int .i64 0, .int .i64 0]] Y fun e w' => e = .returned (.string (bs tx)) ∧ Kept Nil Y w' := fun Y => by rw [Htx.out]; exact dtext_any nn 0 0 hn9 (by omega) (by omega) Y
  obtain ⟨X2, hX2⟩ : ∃ Y, Y = (X1.alloc (.cells #[.int .i64 nn, .int .i64 0, .int .i64 0] 43)) := ⟨_, rfl⟩
  obtain ⟨H, HHe⟩ : ∃ A, Hid (A = X1.heap.size) := ⟨_, rfl⟩
  have KX2 : Hid (Kept Nil X1 X2) := by rw [hX2]; exact ((Kept.refl _ _).alloc _)
  have HH : Hid (X2.heap[H]? = some (.cells #[.int .i64 nn, .int .i64 0, .int .i64 0] 43 (0, 0))) := by rw [hX2, HHe.out]; exact blk_new _ _
  have hSH : S ≠ H := by have h1 := lt_of_block HS.out; have h2 := HHe.out; omega
  have hHS : H ≠ S := hSH.symm
  clear hp
  go_upto_region 25 with fail
  rw [← hX2, ← HHe.out]
  clear hX2 HHe q2
  have HT2 : Hid (TdAt X2 b t D _ oo cp oc) := HT.out.kept KX2.out
  have HS2 : Hid (CqAt X2 S 4 own [] 0) := HS.out.kept KX2.out
  have HR2 : Hid (CqAt X2 R 0 [] [] 0) := HR.out.kept KX2.out
  have HK2 : Hid (Kept Nil w X2) := HK1.out.trans KX2.out
  have SS : ∀ Y, Kept Nil X2 Y → (Y.cell? ⟨b, 8, none⟩ = some (.int .i64 D.v) ∧ Y.cell? ⟨H, 0, none⟩ = some (.int .i64 nn) ∧ Y.cell? ⟨H, 1, none⟩ = some (.int .i64 0) ∧ Y.cell? ⟨H, 2, none⟩ = some (.int .i64 0)) := fun Y kY => ⟨blk_at (HT2.out.kept kY) 8 rfl, blk_at (kY.block _ _ HH.out (fun x => x)) 0 rfl, blk_at (kY.block _ _ HH.out (fun x => x)) 1 rfl, blk_at (kY.block _ _ HH.out (fun x => x)) 2 rfl⟩
  have SZ : ∀ Y, Kept Nil X2 Y → (((((Y.setCell ⟨S, 0, none⟩ (.int .i64 4)).setCell ⟨S, 1, none⟩ (.string (bs key))).setCell ⟨S, 2, none⟩ (.string (bs tx))).setCell ⟨S, 3, none⟩ (.int .i64 D.v)).cell? ⟨b, 8, none⟩ = some (.int .i64 D.v) ∧ ((((Y.setCell ⟨S, 0, none⟩ (.int .i64 4)).setCell ⟨S, 1, none⟩ (.string (bs key))).setCell ⟨S, 2, none⟩ (.string (bs tx))).setCell ⟨S, 3, none⟩ (.int .i64 D.v)).cell? ⟨H, 0, none⟩ = some (.int .i64 nn) ∧ ((((Y.setCell ⟨S, 0, none⟩ (.int .i64 4)).setCell ⟨S, 1, none⟩ (.string (bs key))).setCell ⟨S, 2, none⟩ (.string (bs tx))).setCell ⟨S, 3, none⟩ (.int .i64 D.v)).cell? ⟨H, 1, none⟩ = some (.int .i64 0) ∧ ((((Y.setCell ⟨S, 0, none⟩ (.int .i64 4)).setCell ⟨S, 1, none⟩ (.string (bs key))).setCell ⟨S, 2, none⟩ (.string (bs tx))).setCell ⟨S, 3, none⟩ (.int .i64 D.v)).cell? ⟨H, 2, none⟩ = some (.int .i64 0)) := fun Y kY => ⟨blk_at (blk_other (a := ⟨S, 3, none⟩) (blk_other (a := ⟨S, 2, none⟩) (blk_other (a := ⟨S, 1, none⟩) (blk_other (a := ⟨S, 0, none⟩) (HT2.out.kept kY) hbS _) hbS _) hbS _) hbS _) 8 rfl, blk_at (blk_other (a := ⟨S, 3, none⟩) (blk_other (a := ⟨S, 2, none⟩) (blk_other (a := ⟨S, 1, none⟩) (blk_other (a := ⟨S, 0, none⟩) (kY.block _ _ HH.out (fun x => x)) hHS _) hHS _) hHS _) hHS _) 0 rfl, blk_at (blk_other (a := ⟨S, 3, none⟩) (blk_other (a := ⟨S, 2, none⟩) (blk_other (a := ⟨S, 1, none⟩) (blk_other (a := ⟨S, 0, none⟩) (kY.block _ _ HH.out (fun x => x)) hHS _) hHS _) hHS _) hHS _) 1 rfl, blk_at (blk_other (a := ⟨S, 3, none⟩) (blk_other (a := ⟨S, 2, none⟩) (blk_other (a := ⟨S, 1, none⟩) (blk_other (a := ⟨S, 0, none⟩) (kY.block _ _ HH.out (fun x => x)) hHS _) hHS _) hHS _) hHS _) 2 rfl⟩
  have s0 := SS X2 (Kept.refl _ _)
  go_region_held3 (fun w' => w'.cell? ⟨b, 8, none⟩ = some (.int .i64 D.v) ∧ w'.cell? ⟨H, 0, none⟩ = some (.int .i64 nn) ∧ w'.cell? ⟨H, 1, none⟩ = some (.int .i64 0) ∧ w'.cell? ⟨H, 2, none⟩ = some (.int .i64 0)) (first | (with_reducible assumption) | (refine SS _ ?_; repeat (first | (with_reducible exact Ka.out) | (with_reducible exact Kept.refl _ _) | (with_reducible refine Kept.drew ?_)))) (first | (go_at_call 56; go_must (go_fit (TX _)); rintro _ w1 ⟨rfl, ka⟩; have Ka : Hid (Kept Nil X2 w1) := Kept.trans (by repeat (first | exact Kept.refl _ _ | refine Kept.drew ?_)) ka; have sa := SS w1 Ka.out; have sz := SZ w1 Ka.out; have sc0 : w1.cell? ⟨S, 0, none⟩ = some (.int .i64 4) := blk_at (HS2.out.kept Ka.out) 0 rfl; have sfz0 : w1.frozen? ⟨S, 0, none⟩ = false := blk_free (HS2.out.kept Ka.out) 0; have sc1 : w1.cell? ⟨S, 1, none⟩ = some (.string (bs own)) := blk_at (HS2.out.kept Ka.out) 1 rfl; have sfz1 : w1.frozen? ⟨S, 1, none⟩ = false := blk_free (HS2.out.kept Ka.out) 1; have sc2 : w1.cell? ⟨S, 2, none⟩ = some (.string ⟨#[]⟩) := blk_at (HS2.out.kept Ka.out) 2 rfl; have sfz2 : w1.frozen? ⟨S, 2, none⟩ = false := blk_free (HS2.out.kept Ka.out) 2; have sc3 : w1.cell? ⟨S, 3, none⟩ = some (.int .i64 0) := blk_at (HS2.out.kept Ka.out) 3 rfl; have sfz3 : w1.frozen? ⟨S, 3, none⟩ = false := blk_free (HS2.out.kept Ka.out) 3; clear ka))
  all_goals
    obtain ⟨Z, hZ⟩ : ∃ Z, Z = ((((w1.setCell ⟨S, 0, none⟩ (.int .i64 4)).setCell ⟨S, 1, none⟩ (.string (bs key))).setCell ⟨S, 2, none⟩ (.string (bs tx))).setCell ⟨S, 3, none⟩ (.int .i64 D.v)) := ⟨_, rfl⟩
    have HZ : Hid (CqAt Z R 0 [] [] 0 ∧ CqAt Z S (4) (key) (tx) (D.v) ∧ Kept Nil w Z) := by rw [hZ]; exact ⟨(((CqAt.off (CqAt.off (CqAt.off (CqAt.off (HR2.out.kept Ka.out) hRS 0 _) hRS 1 _) hRS 2 _) hRS 3 _))), CqAt.all (HS2.out.kept Ka.out) _ _ _ _, (((((HK2.out.trans Ka.out).setNew (p := ⟨S, 0, none⟩) HwS.out _).setNew (p := ⟨S, 1, none⟩) HwS.out _).setNew (p := ⟨S, 2, none⟩) HwS.out _).setNew (p := ⟨S, 3, none⟩) HwS.out _)⟩
    go_upto_region 32 with fail
    rw [← hZ]
    clear hZ sa sz s0 TX SS SZ sc0 sc1 sc2 sc3 sfz0 sfz1 sfz2 sfz3
    obtain ⟨Y, hY⟩ : ∃ Y, Y = ((((Z.setCell ⟨R, 0, none⟩ (.int .i64 4)).setCell ⟨R, 1, none⟩ (.string (bs key))).setCell ⟨R, 2, none⟩ (.string (bs tx))).setCell ⟨R, 3, none⟩ (.int .i64 D.v)) := ⟨_, rfl⟩
    have HY : Hid (CqAt Y R (4) (key) (tx) (D.v) ∧ Kept Nil w Y) := by rw [hY]; exact ⟨CqAt.all HZ.out.1 _ _ _ _, ((((HZ.out.2.2.setNew (p := ⟨R, 0, none⟩) HI.out.wr _).setNew (p := ⟨R, 1, none⟩) HI.out.wr _).setNew (p := ⟨R, 2, none⟩) HI.out.wr _).setNew (p := ⟨R, 3, none⟩) HI.out.wr _)⟩
    have r0 : Z.cell? ⟨R, 0, none⟩ = some (.int .i64 0) := blk_at HZ.out.1 0 rfl
    have r1 : Z.cell? ⟨R, 1, none⟩ = some (.string ⟨#[]⟩) := blk_at HZ.out.1 1 rfl
    have r2 : Z.cell? ⟨R, 2, none⟩ = some (.string ⟨#[]⟩) := blk_at HZ.out.1 2 rfl
    have r3 : Z.cell? ⟨R, 3, none⟩ = some (.int .i64 0) := blk_at HZ.out.1 3 rfl
    have rf0 : Z.frozen? ⟨R, 0, none⟩ = false := blk_free HZ.out.1 0
    have rf1 : Z.frozen? ⟨R, 1, none⟩ = false := blk_free HZ.out.1 1
    have rf2 : Z.frozen? ⟨R, 2, none⟩ = false := blk_free HZ.out.1 2
    have rf3 : Z.frozen? ⟨R, 3, none⟩ = false := blk_free HZ.out.1 3
    have s0 : Z.cell? ⟨S, 0, none⟩ = some (.int .i64 4) := blk_at HZ.out.2.1 0 rfl
    have s1 : Z.cell? ⟨S, 1, none⟩ = some (.string (bs key)) := blk_at HZ.out.2.1 1 rfl
    have s2 : Z.cell? ⟨S, 2, none⟩ = some (.string (bs tx)) := blk_at HZ.out.2.1 2 rfl
    have s3 : Z.cell? ⟨S, 3, none⟩ = some (.int .i64 D.v) := blk_at HZ.out.2.1 3 rfl
    go_wp2
    rw [← hY]
    have j0 : Y.cell? ⟨R, 0, none⟩ = some (.int .i64 4) := blk_at HY.out.1 0 rfl
    have j1 : Y.cell? ⟨R, 1, none⟩ = some (.string (bs key)) := blk_at HY.out.1 1 rfl
    have j2 : Y.cell? ⟨R, 2, none⟩ = some (.string (bs tx)) := blk_at HY.out.1 2 rfl
    have j3 : Y.cell? ⟨R, 3, none⟩ = some (.int .i64 D.v) := blk_at HY.out.1 3 rfl
    exact bodyPost_ret (v := .tuple #[.agg #[.int .i64 4, .string (bs key), .string (bs tx), .int .i64 D.v], .bool true]) (by simp [results, Tryz.results13, go_sem, j0, j1, j2, j3]) rfl ⟨by rw [hn, HI.out.ek, ← HND.out, ← HSN.out.2]; show _ = _; rw [show (0 : Int) = ((0 : Nat) : Int) from rfl, numT_h, ← Htx.out]; rfl, HY.out.2⟩
set_option maxRecDepth 100000 in
set_option maxHeartbeats 4000000 in
theorem dmT9 (w X : World) (b R : Nat) (t : Tx) (D : Dx) (ap oo : Option Addr) (cp oc : Nat) (own oth key : List UInt8) (nn : Nat) (HI : Hid (DmIn w X b R t D ap oo cp oc own oth key nn)) (hp : t.ph = 9) (fv1 fv3 fv8 fv9 fv10 fv11 fv12 fv13 fv14 fv15 fv16 fv17 fv18 fv19 fv20 fv21 fv22 fv23 fv24 fv25 fv26 fv27 fv28 fv29 fv30 fv31 fv32 fv33 fv34 fv35 fv36 fv37 fv38 fv39 fv40 fv41 fv42 fv43 fv44 fv45 fv46 fv47 fv48 fv49 fv50 fv51 fv52 fv53 fv54 fv55 fv56 fv57 fv58 fv59 fv60 fv61 fv62 fv63 fv64 fv65 fv66 fv67 fv68 fv69 fv70 fv71 fv72 fv73 fv74 fv75 fv76 fv77 fv78 fv79 fv80 fv81 fv82 fv83 fv84 fv85 fv86 fv87 fv88 fv89 fv90 fv91 fv92 fv93 fv94 fv95 fv96 fv97 fv98 fv99 fv100 fv101 fv102 fv103 fv104 fv105 fv106 fv107 fv108 fv109 fv110 fv111 fv112 fv113 fv114 fv115 fv116 fv117 fv118 fv119 fv120 fv121 fv122 fv123 fv124 fv125 fv126 fv127 fv128 fv129 fv130 fv131 fv132 fv133 fv134 fv135 : Value) :
    Code.wp Tryz.prog dT7 (bodyPost Tryz.prog Tryz.f13 (NxPost w t.next)) ⟨#[.pointer (some ⟨b, 0, none⟩), fv1, .pointer (some ⟨R, 0, none⟩), fv3, .string (bs own), .string (bs oth), .string (bs key), .int .i64 nn, fv8, fv9, fv10, fv11, fv12, fv13, fv14, fv15, fv16, fv17, fv18, fv19, fv20, fv21, fv22, fv23, fv24, fv25, fv26, fv27, fv28, fv29, fv30, fv31, fv32, fv33, fv34, fv35, fv36, fv37, fv38, fv39, fv40, fv41, fv42, fv43, fv44, fv45, fv46, fv47, fv48, fv49, fv50, fv51, fv52, fv53, fv54, fv55, fv56, fv57, fv58, fv59, fv60, fv61, fv62, fv63, fv64, fv65, fv66, fv67, fv68, fv69, fv70, fv71, fv72, fv73, fv74, fv75, fv76, fv77, fv78, fv79, fv80, fv81, fv82, fv83, fv84, fv85, fv86, fv87, fv88, fv89, fv90, fv91, fv92, fv93, fv94, fv95, fv96, fv97, fv98, fv99, fv100, fv101, fv102, fv103, fv104, fv105, fv106, fv107, fv108, fv109, fv110, fv111, fv112, fv113, fv114, fv115, fv116, fv117, fv118, fv119, fv120, fv121, fv122, fv123, fv124, fv125, fv126, fv127, fv128, fv129, fv130, fv131, fv132, fv133, fv134, fv135], []⟩ X := by
  conv => arg 2; whnf
  dsimp only
  obtain ⟨X1, hX1⟩ : ∃ Y, Y = X.alloc (.cells #[.int .i64 4, .string (bs own), .string ⟨#[]⟩, .int .i64 0] 31) := ⟨_, rfl⟩
  obtain ⟨S, HSe⟩ : ∃ A, Hid (A = X.heap.size) := ⟨_, rfl⟩
  have HS : Hid (CqAt X1 S 4 own [] 0) := by rw [hX1, HSe.out]; exact blk_new _ _
  have KX1 : Hid (Kept Nil X X1) := by rw [hX1]; exact (Kept.refl _ _).alloc _
  have HT : Hid (TdAt X1 b t D ap oo cp oc) := HI.out.td.kept KX1.out
  have HR : Hid (CqAt X1 R 0 [] [] 0) := HI.out.cr.kept KX1.out
  have hRS : R ≠ S := by have h1 := lt_of_block HI.out.cr; have h2 := HSe.out; omega
  have hbS : b ≠ S := by have h1 := lt_of_block HI.out.td; have h2 := HSe.out; omega
  have hbR : b ≠ R := HI.out.br
  have hSR : S ≠ R := hRS.symm
  have hSb : S ≠ b := hbS.symm
  have hRb : R ≠ b := hbR.symm
  have HwS : Hid (w.heap.size ≤ S) := by show _ ≤ _; rw [HSe.out]; exact HI.out.kp.size
  have HK1 : Hid (Kept Nil w X1) := HI.out.kp.trans KX1.out
  go_upto_region 8 with fail
  rw [← hX1, ← HSe.out]
  clear hX1 HSe
  have q2 : X1.cell? ⟨b, 2, none⟩ = some (.string ⟨#[103, 105, 118, 101]⟩) := by
    have e : X1.cell? ⟨b, 2, none⟩ = some (.string (bs (phW t.ph))) := blk_at HT.out 2 rfl
    rw [hp] at e
    exact e
  have hn : t.next = (swapC t.key (Tx.numT (t.sn.settled (decide (t.st = 2))) 0 0) t.vr, true) := by unfold Tx.next; simp [hp]
  have HSN : Hid (D.sn = t.sn ∧ D.v = t.vr) := ⟨HI.out.sm.sn (by omega), HI.out.sm.v (by omega)⟩
  have HND : Hid (nn = t.sn.settled (decide (t.st = 2))) := by
    have h1 := HI.out.en
    have h2 := HI.out.sm.d8 (.inr hp)
    have h3 := HI.out.sm.b (by omega)
    show nn = _
    rw [h1, h2, HSN.out.1]
    unfold Hd.settled
    by_cases c : (decide (t.st = 2)) = true
    · rw [if_pos c, if_pos ⟨c, h3⟩]
    · rw [if_neg c, if_neg (fun e => c e.1)]
  have hn9 : nn ≤ 999999999 := by
    have h1 := HI.out.en
    have h2 := HI.out.sm.ok.n
    have h3 := HI.out.sm.ok.t
    rw [h1]
    split <;> omega
  obtain ⟨tx, Htx⟩ : ∃ x, Hid (x = hTx nn 0 0) := ⟨_, rfl⟩
  have TX : ∀ Y, Calls Tryz.prog 56 #[.agg #[.int .i64 nn, .int .i64 0, .int .i64 0]] Y fun e w' => e = .returned (.string (bs tx)) ∧ Kept Nil Y w' := fun Y => by rw [Htx.out]; exact dtext_any nn 0 0 hn9 (by omega) (by omega) Y
  obtain ⟨X2, hX2⟩ : ∃ Y, Y = (X1.alloc (.cells #[.int .i64 nn, .int .i64 0, .int .i64 0] 43)) := ⟨_, rfl⟩
  obtain ⟨H, HHe⟩ : ∃ A, Hid (A = X1.heap.size) := ⟨_, rfl⟩
  have KX2 : Hid (Kept Nil X1 X2) := by rw [hX2]; exact ((Kept.refl _ _).alloc _)
  have HH : Hid (X2.heap[H]? = some (.cells #[.int .i64 nn, .int .i64 0, .int .i64 0] 43 (0, 0))) := by rw [hX2, HHe.out]; exact blk_new _ _
  have hSH : S ≠ H := by have h1 := lt_of_block HS.out; have h2 := HHe.out; omega
  have hHS : H ≠ S := hSH.symm
  clear hp
  go_upto_region 25 with fail
  rw [← hX2, ← HHe.out]
  clear hX2 HHe q2
  have HT2 : Hid (TdAt X2 b t D _ oo cp oc) := HT.out.kept KX2.out
  have HS2 : Hid (CqAt X2 S 4 own [] 0) := HS.out.kept KX2.out
  have HR2 : Hid (CqAt X2 R 0 [] [] 0) := HR.out.kept KX2.out
  have HK2 : Hid (Kept Nil w X2) := HK1.out.trans KX2.out
  have SS : ∀ Y, Kept Nil X2 Y → (Y.cell? ⟨b, 8, none⟩ = some (.int .i64 D.v) ∧ Y.cell? ⟨H, 0, none⟩ = some (.int .i64 nn) ∧ Y.cell? ⟨H, 1, none⟩ = some (.int .i64 0) ∧ Y.cell? ⟨H, 2, none⟩ = some (.int .i64 0)) := fun Y kY => ⟨blk_at (HT2.out.kept kY) 8 rfl, blk_at (kY.block _ _ HH.out (fun x => x)) 0 rfl, blk_at (kY.block _ _ HH.out (fun x => x)) 1 rfl, blk_at (kY.block _ _ HH.out (fun x => x)) 2 rfl⟩
  have SZ : ∀ Y, Kept Nil X2 Y → (((((Y.setCell ⟨S, 0, none⟩ (.int .i64 4)).setCell ⟨S, 1, none⟩ (.string (bs key))).setCell ⟨S, 2, none⟩ (.string (bs tx))).setCell ⟨S, 3, none⟩ (.int .i64 D.v)).cell? ⟨b, 8, none⟩ = some (.int .i64 D.v) ∧ ((((Y.setCell ⟨S, 0, none⟩ (.int .i64 4)).setCell ⟨S, 1, none⟩ (.string (bs key))).setCell ⟨S, 2, none⟩ (.string (bs tx))).setCell ⟨S, 3, none⟩ (.int .i64 D.v)).cell? ⟨H, 0, none⟩ = some (.int .i64 nn) ∧ ((((Y.setCell ⟨S, 0, none⟩ (.int .i64 4)).setCell ⟨S, 1, none⟩ (.string (bs key))).setCell ⟨S, 2, none⟩ (.string (bs tx))).setCell ⟨S, 3, none⟩ (.int .i64 D.v)).cell? ⟨H, 1, none⟩ = some (.int .i64 0) ∧ ((((Y.setCell ⟨S, 0, none⟩ (.int .i64 4)).setCell ⟨S, 1, none⟩ (.string (bs key))).setCell ⟨S, 2, none⟩ (.string (bs tx))).setCell ⟨S, 3, none⟩ (.int .i64 D.v)).cell? ⟨H, 2, none⟩ = some (.int .i64 0)) := fun Y kY => ⟨blk_at (blk_other (a := ⟨S, 3, none⟩) (blk_other (a := ⟨S, 2, none⟩) (blk_other (a := ⟨S, 1, none⟩) (blk_other (a := ⟨S, 0, none⟩) (HT2.out.kept kY) hbS _) hbS _) hbS _) hbS _) 8 rfl, blk_at (blk_other (a := ⟨S, 3, none⟩) (blk_other (a := ⟨S, 2, none⟩) (blk_other (a := ⟨S, 1, none⟩) (blk_other (a := ⟨S, 0, none⟩) (kY.block _ _ HH.out (fun x => x)) hHS _) hHS _) hHS _) hHS _) 0 rfl, blk_at (blk_other (a := ⟨S, 3, none⟩) (blk_other (a := ⟨S, 2, none⟩) (blk_other (a := ⟨S, 1, none⟩) (blk_other (a := ⟨S, 0, none⟩) (kY.block _ _ HH.out (fun x => x)) hHS _) hHS _) hHS _) hHS _) 1 rfl, blk_at (blk_other (a := ⟨S, 3, none⟩) (blk_other (a := ⟨S, 2, none⟩) (blk_other (a := ⟨S, 1, none⟩) (blk_other (a := ⟨S, 0, none⟩) (kY.block _ _ HH.out (fun x => x)) hHS _) hHS _) hHS _) hHS _) 2 rfl⟩
  have s0 := SS X2 (Kept.refl _ _)
  go_region_held3 (fun w' => w'.cell? ⟨b, 8, none⟩ = some (.int .i64 D.v) ∧ w'.cell? ⟨H, 0, none⟩ = some (.int .i64 nn) ∧ w'.cell? ⟨H, 1, none⟩ = some (.int .i64 0) ∧ w'.cell? ⟨H, 2, none⟩ = some (.int .i64 0)) (first | (with_reducible assumption) | (refine SS _ ?_; repeat (first | (with_reducible exact Ka.out) | (with_reducible exact Kept.refl _ _) | (with_reducible refine Kept.drew ?_)))) (first | (go_at_call 56; go_must (go_fit (TX _)); rintro _ w1 ⟨rfl, ka⟩; have Ka : Hid (Kept Nil X2 w1) := Kept.trans (by repeat (first | exact Kept.refl _ _ | refine Kept.drew ?_)) ka; have sa := SS w1 Ka.out; have sz := SZ w1 Ka.out; have sc0 : w1.cell? ⟨S, 0, none⟩ = some (.int .i64 4) := blk_at (HS2.out.kept Ka.out) 0 rfl; have sfz0 : w1.frozen? ⟨S, 0, none⟩ = false := blk_free (HS2.out.kept Ka.out) 0; have sc1 : w1.cell? ⟨S, 1, none⟩ = some (.string (bs own)) := blk_at (HS2.out.kept Ka.out) 1 rfl; have sfz1 : w1.frozen? ⟨S, 1, none⟩ = false := blk_free (HS2.out.kept Ka.out) 1; have sc2 : w1.cell? ⟨S, 2, none⟩ = some (.string ⟨#[]⟩) := blk_at (HS2.out.kept Ka.out) 2 rfl; have sfz2 : w1.frozen? ⟨S, 2, none⟩ = false := blk_free (HS2.out.kept Ka.out) 2; have sc3 : w1.cell? ⟨S, 3, none⟩ = some (.int .i64 0) := blk_at (HS2.out.kept Ka.out) 3 rfl; have sfz3 : w1.frozen? ⟨S, 3, none⟩ = false := blk_free (HS2.out.kept Ka.out) 3; clear ka))
  all_goals
    obtain ⟨Z, hZ⟩ : ∃ Z, Z = ((((w1.setCell ⟨S, 0, none⟩ (.int .i64 4)).setCell ⟨S, 1, none⟩ (.string (bs key))).setCell ⟨S, 2, none⟩ (.string (bs tx))).setCell ⟨S, 3, none⟩ (.int .i64 D.v)) := ⟨_, rfl⟩
    have HZ : Hid (CqAt Z R 0 [] [] 0 ∧ CqAt Z S (4) (key) (tx) (D.v) ∧ Kept Nil w Z) := by rw [hZ]; exact ⟨(((CqAt.off (CqAt.off (CqAt.off (CqAt.off (HR2.out.kept Ka.out) hRS 0 _) hRS 1 _) hRS 2 _) hRS 3 _))), CqAt.all (HS2.out.kept Ka.out) _ _ _ _, (((((HK2.out.trans Ka.out).setNew (p := ⟨S, 0, none⟩) HwS.out _).setNew (p := ⟨S, 1, none⟩) HwS.out _).setNew (p := ⟨S, 2, none⟩) HwS.out _).setNew (p := ⟨S, 3, none⟩) HwS.out _)⟩
    go_upto_region 32 with fail
    rw [← hZ]
    clear hZ sa sz s0 TX SS SZ sc0 sc1 sc2 sc3 sfz0 sfz1 sfz2 sfz3
    obtain ⟨Y, hY⟩ : ∃ Y, Y = ((((Z.setCell ⟨R, 0, none⟩ (.int .i64 4)).setCell ⟨R, 1, none⟩ (.string (bs key))).setCell ⟨R, 2, none⟩ (.string (bs tx))).setCell ⟨R, 3, none⟩ (.int .i64 D.v)) := ⟨_, rfl⟩
    have HY : Hid (CqAt Y R (4) (key) (tx) (D.v) ∧ Kept Nil w Y) := by rw [hY]; exact ⟨CqAt.all HZ.out.1 _ _ _ _, ((((HZ.out.2.2.setNew (p := ⟨R, 0, none⟩) HI.out.wr _).setNew (p := ⟨R, 1, none⟩) HI.out.wr _).setNew (p := ⟨R, 2, none⟩) HI.out.wr _).setNew (p := ⟨R, 3, none⟩) HI.out.wr _)⟩
    have r0 : Z.cell? ⟨R, 0, none⟩ = some (.int .i64 0) := blk_at HZ.out.1 0 rfl
    have r1 : Z.cell? ⟨R, 1, none⟩ = some (.string ⟨#[]⟩) := blk_at HZ.out.1 1 rfl
    have r2 : Z.cell? ⟨R, 2, none⟩ = some (.string ⟨#[]⟩) := blk_at HZ.out.1 2 rfl
    have r3 : Z.cell? ⟨R, 3, none⟩ = some (.int .i64 0) := blk_at HZ.out.1 3 rfl
    have rf0 : Z.frozen? ⟨R, 0, none⟩ = false := blk_free HZ.out.1 0
    have rf1 : Z.frozen? ⟨R, 1, none⟩ = false := blk_free HZ.out.1 1
    have rf2 : Z.frozen? ⟨R, 2, none⟩ = false := blk_free HZ.out.1 2
    have rf3 : Z.frozen? ⟨R, 3, none⟩ = false := blk_free HZ.out.1 3
    have s0 : Z.cell? ⟨S, 0, none⟩ = some (.int .i64 4) := blk_at HZ.out.2.1 0 rfl
    have s1 : Z.cell? ⟨S, 1, none⟩ = some (.string (bs key)) := blk_at HZ.out.2.1 1 rfl
    have s2 : Z.cell? ⟨S, 2, none⟩ = some (.string (bs tx)) := blk_at HZ.out.2.1 2 rfl
    have s3 : Z.cell? ⟨S, 3, none⟩ = some (.int .i64 D.v) := blk_at HZ.out.2.1 3 rfl
    go_wp2
    rw [← hY]
    have j0 : Y.cell? ⟨R, 0, none⟩ = some (.int .i64 4) := blk_at HY.out.1 0 rfl
    have j1 : Y.cell? ⟨R, 1, none⟩ = some (.string (bs key)) := blk_at HY.out.1 1 rfl
    have j2 : Y.cell? ⟨R, 2, none⟩ = some (.string (bs tx)) := blk_at HY.out.1 2 rfl
    have j3 : Y.cell? ⟨R, 3, none⟩ = some (.int .i64 D.v) := blk_at HY.out.1 3 rfl
    exact bodyPost_ret (v := .tuple #[.agg #[.int .i64 4, .string (bs key), .string (bs tx), .int .i64 D.v], .bool true]) (by simp [results, Tryz.results13, go_sem, j0, j1, j2, j3]) rfl ⟨by rw [hn, HI.out.ek, ← HND.out, ← HSN.out.2]; show _ = _; rw [show (0 : Int) = ((0 : Nat) : Int) from rfl, numT_h, ← Htx.out]; rfl, HY.out.2⟩
end Go.Proofs.YtflnjlbafchnaaaGreatDoor
