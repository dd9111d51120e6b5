/-
  Joined: WCx9.
-/
import Derived.Test.YtflnjlbafchnaaaGreatDoorQ23
import Derived.Test.YtflnjlbafchnaaaGreatDoorQ38
import Derived.Deep.RegionHeld3
import Derived.StillTailTactics
/-
  Cells: Command (the document's).
-/
namespace Go.Proofs.YtflnjlbafchnaaaGreatDoor
open Go.RowKit

def headIsN (n : Nat) : Code → Bool
  | .region k _ _ => k == n
  | .seq a _ => headIsN n a
  | .block _ c => headIsN n c
  | .loop c => headIsN n c
  | _ => false
/-- From the statement on that begins with a region. -/
def findTailN (n : Nat) : Code → Option Code
  | .seq a b => if headIsN n a then some (.seq a b) else match findTailN n a with
    | some c => some c
    | none => findTailN n b
  | .block _ c => findTailN n c
  | .loop c => findTailN n c
  | .cond _ a b => match findTailN n a with
    | some c => some c
    | none => findTailN n b
  | _ => none
noncomputable def nT3 : Code := (Tryz.f27.body.bind (findTailN 3)).getD .skip
def CdAt (X : World) (R : Nat) (kd : Int) (k v : List UInt8) (m : Int) : Prop := X.heap[R]? = some (.cells #[.int .i64 kd, .string (bs k), .string (bs v), .int .i64 m] 31 (0, 0))
theorem CdAt.kept {X Y : World} {R : Nat} {kd m : Int} {k v : List UInt8} (h : CdAt X R kd k v m) (kx : Kept Nil X Y) : CdAt Y R kd k v m := kx.block _ _ h (fun x => x)
theorem CdAt.off {X : World} {R D : Nat} {kd m : Int} {k v : List UInt8} (h : CdAt X R kd k v m) (hD : R ≠ D) (i : Nat) (x : Value) : CdAt (X.setCell ⟨D, i, none⟩ x) R kd k v m := blk_other (a := ⟨D, i, none⟩) h hD _
theorem CdAt.all {X : World} {R : Nat} {kd m : Int} {k v : List UInt8} (h : CdAt X R kd k v m) (kd' : Int) (k' v' : List UInt8) (m' : Int) : CdAt ((((X.setCell ⟨R, 0, none⟩ (.int .i64 kd')).setCell ⟨R, 1, none⟩ (.string (bs k'))).setCell ⟨R, 2, none⟩ (.string (bs v'))).setCell ⟨R, 3, none⟩ (.int .i64 m')) R kd' k' v' m' := blk_set (blk_set (blk_set (blk_set h 0 _) 1 _) 2 _) 3 _
/-- What has been made ahead of the switch. -/
structure CmIn (w X : World) (b R G S : Nat) (j : Jb) (K : Jk) (kk : List UInt8) : Prop where
  kp : Kept Nil w X
  jd : JdAt X b j K
  cr : CdAt X R 0 [] [] 0
  cg : CdAt X G 2 kk [] 0
  cs : CdAt X S 4 kk [] j.sv
  wr : w.heap.size ≤ R
  ws : w.heap.size ≤ S
  rg : R ≠ G
  rs : R ≠ S
  br : b ≠ R
  bS : b ≠ S
set_option maxRecDepth 100000 in
set_option maxHeartbeats 4000000 in
theorem jnT0 (w X : World) (b R G S : Nat) (j : Jb) (K : Jk) (kk : List UInt8) (HI : Hid (CmIn w X b R G S j K kk)) (Hk : Hid (kk = cKey j.k)) (hp : j.ph = 0) (_O : Hid j.Ok) (fv1 fv2 fv4 fv7 fv8 fv9 fv10 fv11 fv12 fv13 fv14 fv15 fv16 fv17 fv18 fv19 fv20 fv21 fv22 fv23 fv24 fv25 fv26 fv27 fv28 fv29 fv30 fv31 fv32 fv33 fv34 fv35 fv36 fv37 fv38 fv39 fv40 fv41 fv42 fv43 fv44 fv45 fv46 fv47 fv48 fv49 fv50 fv51 fv52 fv53 fv54 fv55 fv56 fv57 fv58 fv59 fv60 fv61 fv62 fv63 fv64 fv65 fv66 fv67 fv68 fv69 fv70 fv71 fv72 fv73 fv74 fv75 fv76 fv77 fv78 fv79 fv80 fv81 fv82 fv83 fv84 fv85 fv86 fv87 fv88 fv89 fv90 fv91 fv92 fv93 fv94 fv95 fv96 fv97 fv98 fv99 fv100 fv101 fv102 fv103 fv104 fv105 fv106 fv107 fv108 fv109 fv110 fv111 fv112 fv113 fv114 fv115 fv116 fv117 fv118 fv119 fv120 fv121 fv122 fv123 fv124 fv125 fv126 fv127 fv128 fv129 fv130 : Value) :
    Code.wp Tryz.prog nT3 (bodyPost Tryz.prog Tryz.f27 (CNPost w j.next)) ⟨#[.pointer (some ⟨b, 0, none⟩), fv1, fv2, .pointer (some ⟨R, 0, none⟩), fv4, .pointer (some ⟨G, 0, none⟩), .pointer (some ⟨S, 0, none⟩), fv7, fv8, fv9, fv10, fv11, fv12, fv13, fv14, fv15, fv16, fv17, fv18, fv19, fv20, fv21, fv22, fv23, fv24, fv25, fv26, fv27, fv28, fv29, fv30, fv31, fv32, fv33, fv34, fv35, fv36, fv37, fv38, fv39, fv40, fv41, fv42, fv43, fv44, fv45, fv46, fv47, fv48, fv49, fv50, fv51, fv52, fv53, fv54, fv55, fv56, fv57, fv58, fv59, fv60, fv61, fv62, fv63, fv64, fv65, fv66, fv67, fv68, fv69, fv70, fv71, fv72, fv73, fv74, fv75, fv76, fv77, fv78, fv79, fv80, fv81, fv82, fv83, fv84, fv85, fv86, fv87, fv88, fv89, fv90, fv91, fv92, fv93, fv94, fv95, fv96, fv97, fv98, fv99, fv100, fv101, fv102, fv103, fv104, fv105, fv106, fv107, fv108, fv109, fv110, fv111, fv112, fv113, fv114, fv115, fv116, fv117, fv118, fv119, fv120, fv121, fv122, fv123, fv124, fv125, fv126, fv127, fv128, fv129, fv130], []⟩ X := by
  conv => arg 2; whnf
  dsimp only
  have HJ : Hid (JdAt X b j K) := HI.out.jd
  have q6 : X.cell? ⟨b, 6, none⟩ = some (.int .i64 1) := by
    have e : X.cell? ⟨b, 6, none⟩ = some (.int .i64 ((j.ph : Int) + 1)) := blk_at HJ.out 6 rfl
    rw [hp] at e
    exact e
  have hRb : R ≠ b := Ne.symm HI.out.br
  have hSb : S ≠ b := Ne.symm HI.out.bS
  have hRG : R ≠ G := HI.out.rg
  have hRS : R ≠ S := HI.out.rs
  have hGR : G ≠ R := Ne.symm hRG
  have hSR : S ≠ R := Ne.symm hRS
  have hbR : b ≠ R := HI.out.br
  have hbS : b ≠ S := HI.out.bS
  have hn : j.next = (j.at', getC (cKey j.k), true) := by unfold Jb.next; rw [if_pos hp]
  have HP : Hid (j.ph = 0) := hp
  clear hp
  obtain ⟨Y, hY⟩ : ∃ Y, Y = ((((X.setCell ⟨R, 0, none⟩ (.int .i64 2)).setCell ⟨R, 1, none⟩ (.string (bs kk))).setCell ⟨R, 2, none⟩ (.string ⟨#[]⟩)).setCell ⟨R, 3, none⟩ (.int .i64 0)).drew := ⟨_, rfl⟩
  have HY : Hid (CdAt Y R (2) (kk) ([]) (0) ∧ Kept Nil w Y) := by rw [hY]; exact ⟨CdAt.all HI.out.cr _ _ _ _, ((((HI.out.kp.setNew (p := ⟨R, 0, none⟩) HI.out.wr _).setNew (p := ⟨R, 1, none⟩) HI.out.wr _).setNew (p := ⟨R, 2, none⟩) HI.out.wr _).setNew (p := ⟨R, 3, none⟩) HI.out.wr _).drew⟩
  have q0 : X.cell? ⟨b, 0, none⟩ = some (.int .i64 j.at') := blk_at HJ.out 0 rfl
  go_upto_region 5 with fail
  have g0 : X.cell? ⟨G, 0, none⟩ = some (.int .i64 2) := blk_at HI.out.cg 0 rfl
  have g1 : X.cell? ⟨G, 1, none⟩ = some (.string (bs kk)) := blk_at HI.out.cg 1 rfl
  have g2 : X.cell? ⟨G, 2, none⟩ = some (.string ⟨#[]⟩) := blk_at HI.out.cg 2 rfl
  have g3 : X.cell? ⟨G, 3, none⟩ = some (.int .i64 0) := blk_at HI.out.cg 3 rfl
  have r0 : X.cell? ⟨R, 0, none⟩ = some (.int .i64 0) := blk_at HI.out.cr 0 rfl
  have r1 : X.cell? ⟨R, 1, none⟩ = some (.string ⟨#[]⟩) := blk_at HI.out.cr 1 rfl
  have r2 : X.cell? ⟨R, 2, none⟩ = some (.string ⟨#[]⟩) := blk_at HI.out.cr 2 rfl
  have r3 : X.cell? ⟨R, 3, none⟩ = some (.int .i64 0) := blk_at HI.out.cr 3 rfl
  have rf0 : X.frozen? ⟨R, 0, none⟩ = false := blk_free HI.out.cr 0
  have rf1 : X.frozen? ⟨R, 1, none⟩ = false := blk_free HI.out.cr 1
  have rf2 : X.frozen? ⟨R, 2, none⟩ = false := blk_free HI.out.cr 2
  have rf3 : X.frozen? ⟨R, 3, none⟩ = false := blk_free HI.out.cr 3
  go_region
  all_goals
    go_wp2
    rw [← hY]
    have j0 : Y.cell? ⟨R, 0, none⟩ = some (.int .i64 2) := blk_at HY.out.1 0 rfl
    have j1 : Y.cell? ⟨R, 1, none⟩ = some (.string (bs kk)) := blk_at HY.out.1 1 rfl
    have j2 : Y.cell? ⟨R, 2, none⟩ = some (.string ⟨#[]⟩) := blk_at HY.out.1 2 rfl
    have j3 : Y.cell? ⟨R, 3, none⟩ = some (.int .i64 0) := blk_at HY.out.1 3 rfl
    exact bodyPost_ret (v := .tuple #[.int .i64 j.at', .agg #[.int .i64 2, .string (bs kk), .string ⟨#[]⟩, .int .i64 0], .bool true]) (by simp [results, Tryz.results27, go_sem, j0, j1, j2, j3]) rfl ⟨by rw [hn, ← Hk.out]; rfl, HY.out.2⟩
set_option maxRecDepth 100000 in
set_option maxHeartbeats 4000000 in
theorem jnT2 (w X : World) (b R G S : Nat) (j : Jb) (K : Jk) (kk : List UInt8) (HI : Hid (CmIn w X b R G S j K kk)) (Hk : Hid (kk = cKey j.k)) (hp : j.ph = 2) (_O : Hid j.Ok) (fv1 fv2 fv4 fv7 fv8 fv9 fv10 fv11 fv12 fv13 fv14 fv15 fv16 fv17 fv18 fv19 fv20 fv21 fv22 fv23 fv24 fv25 fv26 fv27 fv28 fv29 fv30 fv31 fv32 fv33 fv34 fv35 fv36 fv37 fv38 fv39 fv40 fv41 fv42 fv43 fv44 fv45 fv46 fv47 fv48 fv49 fv50 fv51 fv52 fv53 fv54 fv55 fv56 fv57 fv58 fv59 fv60 fv61 fv62 fv63 fv64 fv65 fv66 fv67 fv68 fv69 fv70 fv71 fv72 fv73 fv74 fv75 fv76 fv77 fv78 fv79 fv80 fv81 fv82 fv83 fv84 fv85 fv86 fv87 fv88 fv89 fv90 fv91 fv92 fv93 fv94 fv95 fv96 fv97 fv98 fv99 fv100 fv101 fv102 fv103 fv104 fv105 fv106 fv107 fv108 fv109 fv110 fv111 fv112 fv113 fv114 fv115 fv116 fv117 fv118 fv119 fv120 fv121 fv122 fv123 fv124 fv125 fv126 fv127 fv128 fv129 fv130 : Value) :
    Code.wp Tryz.prog nT3 (bodyPost Tryz.prog Tryz.f27 (CNPost w j.next)) ⟨#[.pointer (some ⟨b, 0, none⟩), fv1, fv2, .pointer (some ⟨R, 0, none⟩), fv4, .pointer (some ⟨G, 0, none⟩), .pointer (some ⟨S, 0, none⟩), fv7, fv8, fv9, fv10, fv11, fv12, fv13, fv14, fv15, fv16, fv17, fv18, fv19, fv20, fv21, fv22, fv23, fv24, fv25, fv26, fv27, fv28, fv29, fv30, fv31, fv32, fv33, fv34, fv35, fv36, fv37, fv38, fv39, fv40, fv41, fv42, fv43, fv44, fv45, fv46, fv47, fv48, fv49, fv50, fv51, fv52, fv53, fv54, fv55, fv56, fv57, fv58, fv59, fv60, fv61, fv62, fv63, fv64, fv65, fv66, fv67, fv68, fv69, fv70, fv71, fv72, fv73, fv74, fv75, fv76, fv77, fv78, fv79, fv80, fv81, fv82, fv83, fv84, fv85, fv86, fv87, fv88, fv89, fv90, fv91, fv92, fv93, fv94, fv95, fv96, fv97, fv98, fv99, fv100, fv101, fv102, fv103, fv104, fv105, fv106, fv107, fv108, fv109, fv110, fv111, fv112, fv113, fv114, fv115, fv116, fv117, fv118, fv119, fv120, fv121, fv122, fv123, fv124, fv125, fv126, fv127, fv128, fv129, fv130], []⟩ X := by
  conv => arg 2; whnf
  dsimp only
  have HJ : Hid (JdAt X b j K) := HI.out.jd
  have q6 : X.cell? ⟨b, 6, none⟩ = some (.int .i64 3) := by
    have e : X.cell? ⟨b, 6, none⟩ = some (.int .i64 ((j.ph : Int) + 1)) := blk_at HJ.out 6 rfl
    rw [hp] at e
    exact e
  have hRb : R ≠ b := Ne.symm HI.out.br
  have hSb : S ≠ b := Ne.symm HI.out.bS
  have hRG : R ≠ G := HI.out.rg
  have hRS : R ≠ S := HI.out.rs
  have hGR : G ≠ R := Ne.symm hRG
  have hSR : S ≠ R := Ne.symm hRS
  have hbR : b ≠ R := HI.out.br
  have hbS : b ≠ S := HI.out.bS
  have hn : j.next = (j.tg, getC (cKey j.k), true) := by unfold Jb.next; rw [if_neg (by omega), if_neg (by omega), if_pos hp]
  have HP : Hid (j.ph = 2) := hp
  clear hp
  obtain ⟨Y, hY⟩ : ∃ Y, Y = ((((X.setCell ⟨R, 0, none⟩ (.int .i64 2)).setCell ⟨R, 1, none⟩ (.string (bs kk))).setCell ⟨R, 2, none⟩ (.string ⟨#[]⟩)).setCell ⟨R, 3, none⟩ (.int .i64 0)).drew := ⟨_, rfl⟩
  have HY : Hid (CdAt Y R (2) (kk) ([]) (0) ∧ Kept Nil w Y) := by rw [hY]; exact ⟨CdAt.all HI.out.cr _ _ _ _, ((((HI.out.kp.setNew (p := ⟨R, 0, none⟩) HI.out.wr _).setNew (p := ⟨R, 1, none⟩) HI.out.wr _).setNew (p := ⟨R, 2, none⟩) HI.out.wr _).setNew (p := ⟨R, 3, none⟩) HI.out.wr _).drew⟩
  have q1 : X.cell? ⟨b, 1, none⟩ = some (.int .i64 j.tg) := blk_at HJ.out 1 rfl
  go_upto_region 10 with fail
  have g0 : X.cell? ⟨G, 0, none⟩ = some (.int .i64 2) := blk_at HI.out.cg 0 rfl
  have g1 : X.cell? ⟨G, 1, none⟩ = some (.string (bs kk)) := blk_at HI.out.cg 1 rfl
  have g2 : X.cell? ⟨G, 2, none⟩ = some (.string ⟨#[]⟩) := blk_at HI.out.cg 2 rfl
  have g3 : X.cell? ⟨G, 3, none⟩ = some (.int .i64 0) := blk_at HI.out.cg 3 rfl
  have r0 : X.cell? ⟨R, 0, none⟩ = some (.int .i64 0) := blk_at HI.out.cr 0 rfl
  have r1 : X.cell? ⟨R, 1, none⟩ = some (.string ⟨#[]⟩) := blk_at HI.out.cr 1 rfl
  have r2 : X.cell? ⟨R, 2, none⟩ = some (.string ⟨#[]⟩) := blk_at HI.out.cr 2 rfl
  have r3 : X.cell? ⟨R, 3, none⟩ = some (.int .i64 0) := blk_at HI.out.cr 3 rfl
  have rf0 : X.frozen? ⟨R, 0, none⟩ = false := blk_free HI.out.cr 0
  have rf1 : X.frozen? ⟨R, 1, none⟩ = false := blk_free HI.out.cr 1
  have rf2 : X.frozen? ⟨R, 2, none⟩ = false := blk_free HI.out.cr 2
  have rf3 : X.frozen? ⟨R, 3, none⟩ = false := blk_free HI.out.cr 3
  go_region
  all_goals
    go_wp2
    rw [← hY]
    have j0 : Y.cell? ⟨R, 0, none⟩ = some (.int .i64 2) := blk_at HY.out.1 0 rfl
    have j1 : Y.cell? ⟨R, 1, none⟩ = some (.string (bs kk)) := blk_at HY.out.1 1 rfl
    have j2 : Y.cell? ⟨R, 2, none⟩ = some (.string ⟨#[]⟩) := blk_at HY.out.1 2 rfl
    have j3 : Y.cell? ⟨R, 3, none⟩ = some (.int .i64 0) := blk_at HY.out.1 3 rfl
    exact bodyPost_ret (v := .tuple #[.int .i64 j.tg, .agg #[.int .i64 2, .string (bs kk), .string ⟨#[]⟩, .int .i64 0], .bool true]) (by simp [results, Tryz.results27, go_sem, j0, j1, j2, j3]) rfl ⟨by rw [hn, ← Hk.out]; rfl, HY.out.2⟩
set_option maxRecDepth 100000 in
set_option maxHeartbeats 4000000 in
theorem jnT4 (w X : World) (b R G S : Nat) (j : Jb) (K : Jk) (kk : List UInt8) (HI : Hid (CmIn w X b R G S j K kk)) (Hk : Hid (kk = cKey j.k)) (hp : j.ph = 4) (_O : Hid j.Ok) (fv1 fv2 fv4 fv7 fv8 fv9 fv10 fv11 fv12 fv13 fv14 fv15 fv16 fv17 fv18 fv19 fv20 fv21 fv22 fv23 fv24 fv25 fv26 fv27 fv28 fv29 fv30 fv31 fv32 fv33 fv34 fv35 fv36 fv37 fv38 fv39 fv40 fv41 fv42 fv43 fv44 fv45 fv46 fv47 fv48 fv49 fv50 fv51 fv52 fv53 fv54 fv55 fv56 fv57 fv58 fv59 fv60 fv61 fv62 fv63 fv64 fv65 fv66 fv67 fv68 fv69 fv70 fv71 fv72 fv73 fv74 fv75 fv76 fv77 fv78 fv79 fv80 fv81 fv82 fv83 fv84 fv85 fv86 fv87 fv88 fv89 fv90 fv91 fv92 fv93 fv94 fv95 fv96 fv97 fv98 fv99 fv100 fv101 fv102 fv103 fv104 fv105 fv106 fv107 fv108 fv109 fv110 fv111 fv112 fv113 fv114 fv115 fv116 fv117 fv118 fv119 fv120 fv121 fv122 fv123 fv124 fv125 fv126 fv127 fv128 fv129 fv130 : Value) :
    Code.wp Tryz.prog nT3 (bodyPost Tryz.prog Tryz.f27 (CNPost w j.next)) ⟨#[.pointer (some ⟨b, 0, none⟩), fv1, fv2, .pointer (some ⟨R, 0, none⟩), fv4, .pointer (some ⟨G, 0, none⟩), .pointer (some ⟨S, 0, none⟩), fv7, fv8, fv9, fv10, fv11, fv12, fv13, fv14, fv15, fv16, fv17, fv18, fv19, fv20, fv21, fv22, fv23, fv24, fv25, fv26, fv27, fv28, fv29, fv30, fv31, fv32, fv33, fv34, fv35, fv36, fv37, fv38, fv39, fv40, fv41, fv42, fv43, fv44, fv45, fv46, fv47, fv48, fv49, fv50, fv51, fv52, fv53, fv54, fv55, fv56, fv57, fv58, fv59, fv60, fv61, fv62, fv63, fv64, fv65, fv66, fv67, fv68, fv69, fv70, fv71, fv72, fv73, fv74, fv75, fv76, fv77, fv78, fv79, fv80, fv81, fv82, fv83, fv84, fv85, fv86, fv87, fv88, fv89, fv90, fv91, fv92, fv93, fv94, fv95, fv96, fv97, fv98, fv99, fv100, fv101, fv102, fv103, fv104, fv105, fv106, fv107, fv108, fv109, fv110, fv111, fv112, fv113, fv114, fv115, fv116, fv117, fv118, fv119, fv120, fv121, fv122, fv123, fv124, fv125, fv126, fv127, fv128, fv129, fv130], []⟩ X := by
  conv => arg 2; whnf
  dsimp only
  have HJ : Hid (JdAt X b j K) := HI.out.jd
  have q6 : X.cell? ⟨b, 6, none⟩ = some (.int .i64 5) := by
    have e : X.cell? ⟨b, 6, none⟩ = some (.int .i64 ((j.ph : Int) + 1)) := blk_at HJ.out 6 rfl
    rw [hp] at e
    exact e
  have hRb : R ≠ b := Ne.symm HI.out.br
  have hSb : S ≠ b := Ne.symm HI.out.bS
  have hRG : R ≠ G := HI.out.rg
  have hRS : R ≠ S := HI.out.rs
  have hGR : G ≠ R := Ne.symm hRG
  have hSR : S ≠ R := Ne.symm hRS
  have hbR : b ≠ R := HI.out.br
  have hbS : b ≠ S := HI.out.bS
  have hn : j.next = (j.sn.g, getC (cKey j.k), true) := by unfold Jb.next; rw [if_neg (by omega), if_neg (by omega), if_neg (by omega), if_neg (by omega), if_pos hp]
  have HP : Hid (j.ph = 4) := hp
  clear hp
  obtain ⟨Y, hY⟩ : ∃ Y, Y = ((((X.setCell ⟨R, 0, none⟩ (.int .i64 2)).setCell ⟨R, 1, none⟩ (.string (bs kk))).setCell ⟨R, 2, none⟩ (.string ⟨#[]⟩)).setCell ⟨R, 3, none⟩ (.int .i64 0)).drew := ⟨_, rfl⟩
  have HY : Hid (CdAt Y R (2) (kk) ([]) (0) ∧ Kept Nil w Y) := by rw [hY]; exact ⟨CdAt.all HI.out.cr _ _ _ _, ((((HI.out.kp.setNew (p := ⟨R, 0, none⟩) HI.out.wr _).setNew (p := ⟨R, 1, none⟩) HI.out.wr _).setNew (p := ⟨R, 2, none⟩) HI.out.wr _).setNew (p := ⟨R, 3, none⟩) HI.out.wr _).drew⟩
  have q9 : X.cell? ⟨b, 9, none⟩ = some (.int .i64 j.sn.g) := blk_at HJ.out 9 rfl
  go_upto_region 16 with fail
  have g0 : X.cell? ⟨G, 0, none⟩ = some (.int .i64 2) := blk_at HI.out.cg 0 rfl
  have g1 : X.cell? ⟨G, 1, none⟩ = some (.string (bs kk)) := blk_at HI.out.cg 1 rfl
  have g2 : X.cell? ⟨G, 2, none⟩ = some (.string ⟨#[]⟩) := blk_at HI.out.cg 2 rfl
  have g3 : X.cell? ⟨G, 3, none⟩ = some (.int .i64 0) := blk_at HI.out.cg 3 rfl
  have r0 : X.cell? ⟨R, 0, none⟩ = some (.int .i64 0) := blk_at HI.out.cr 0 rfl
  have r1 : X.cell? ⟨R, 1, none⟩ = some (.string ⟨#[]⟩) := blk_at HI.out.cr 1 rfl
  have r2 : X.cell? ⟨R, 2, none⟩ = some (.string ⟨#[]⟩) := blk_at HI.out.cr 2 rfl
  have r3 : X.cell? ⟨R, 3, none⟩ = some (.int .i64 0) := blk_at HI.out.cr 3 rfl
  have rf0 : X.frozen? ⟨R, 0, none⟩ = false := blk_free HI.out.cr 0
  have rf1 : X.frozen? ⟨R, 1, none⟩ = false := blk_free HI.out.cr 1
  have rf2 : X.frozen? ⟨R, 2, none⟩ = false := blk_free HI.out.cr 2
  have rf3 : X.frozen? ⟨R, 3, none⟩ = false := blk_free HI.out.cr 3
  go_region
  all_goals
    go_wp2
    rw [← hY]
    have j0 : Y.cell? ⟨R, 0, none⟩ = some (.int .i64 2) := blk_at HY.out.1 0 rfl
    have j1 : Y.cell? ⟨R, 1, none⟩ = some (.string (bs kk)) := blk_at HY.out.1 1 rfl
    have j2 : Y.cell? ⟨R, 2, none⟩ = some (.string ⟨#[]⟩) := blk_at HY.out.1 2 rfl
    have j3 : Y.cell? ⟨R, 3, none⟩ = some (.int .i64 0) := blk_at HY.out.1 3 rfl
    exact bodyPost_ret (v := .tuple #[.int .i64 j.sn.g, .agg #[.int .i64 2, .string (bs kk), .string ⟨#[]⟩, .int .i64 0], .bool true]) (by simp [results, Tryz.results27, go_sem, j0, j1, j2, j3]) rfl ⟨by rw [hn, ← Hk.out]; rfl, HY.out.2⟩
set_option maxRecDepth 100000 in
set_option maxHeartbeats 4000000 in
theorem jnT1 (w X : World) (b R G S : Nat) (j : Jb) (K : Jk) (kk : List UInt8) (HI : Hid (CmIn w X b R G S j K kk)) (Hk : Hid (kk = cKey j.k)) (hp : j.ph = 1) (O : Hid j.Ok) (fv1 fv2 fv4 fv7 fv8 fv9 fv10 fv11 fv12 fv13 fv14 fv15 fv16 fv17 fv18 fv19 fv20 fv21 fv22 fv23 fv24 fv25 fv26 fv27 fv28 fv29 fv30 fv31 fv32 fv33 fv34 fv35 fv36 fv37 fv38 fv39 fv40 fv41 fv42 fv43 fv44 fv45 fv46 fv47 fv48 fv49 fv50 fv51 fv52 fv53 fv54 fv55 fv56 fv57 fv58 fv59 fv60 fv61 fv62 fv63 fv64 fv65 fv66 fv67 fv68 fv69 fv70 fv71 fv72 fv73 fv74 fv75 fv76 fv77 fv78 fv79 fv80 fv81 fv82 fv83 fv84 fv85 fv86 fv87 fv88 fv89 fv90 fv91 fv92 fv93 fv94 fv95 fv96 fv97 fv98 fv99 fv100 fv101 fv102 fv103 fv104 fv105 fv106 fv107 fv108 fv109 fv110 fv111 fv112 fv113 fv114 fv115 fv116 fv117 fv118 fv119 fv120 fv121 fv122 fv123 fv124 fv125 fv126 fv127 fv128 fv129 fv130 : Value) :
    Code.wp Tryz.prog nT3 (bodyPost Tryz.prog Tryz.f27 (CNPost w j.next)) ⟨#[.pointer (some ⟨b, 0, none⟩), fv1, fv2, .pointer (some ⟨R, 0, none⟩), fv4, .pointer (some ⟨G, 0, none⟩), .pointer (some ⟨S, 0, none⟩), fv7, fv8, fv9, fv10, fv11, fv12, fv13, fv14, fv15, fv16, fv17, fv18, fv19, fv20, fv21, fv22, fv23, fv24, fv25, fv26, fv27, fv28, fv29, fv30, fv31, fv32, fv33, fv34, fv35, fv36, fv37, fv38, fv39, fv40, fv41, fv42, fv43, fv44, fv45, fv46, fv47, fv48, fv49, fv50, fv51, fv52, fv53, fv54, fv55, fv56, fv57, fv58, fv59, fv60, fv61, fv62, fv63, fv64, fv65, fv66, fv67, fv68, fv69, fv70, fv71, fv72, fv73, fv74, fv75, fv76, fv77, fv78, fv79, fv80, fv81, fv82, fv83, fv84, fv85, fv86, fv87, fv88, fv89, fv90, fv91, fv92, fv93, fv94, fv95, fv96, fv97, fv98, fv99, fv100, fv101, fv102, fv103, fv104, fv105, fv106, fv107, fv108, fv109, fv110, fv111, fv112, fv113, fv114, fv115, fv116, fv117, fv118, fv119, fv120, fv121, fv122, fv123, fv124, fv125, fv126, fv127, fv128, fv129, fv130], []⟩ X := by
  conv => arg 2; whnf
  dsimp only
  have HJ : Hid (JdAt X b j K) := HI.out.jd
  have q6 : X.cell? ⟨b, 6, none⟩ = some (.int .i64 2) := by
    have e : X.cell? ⟨b, 6, none⟩ = some (.int .i64 ((j.ph : Int) + 1)) := blk_at HJ.out 6 rfl
    rw [hp] at e
    exact e
  have hRb : R ≠ b := Ne.symm HI.out.br
  have hSb : S ≠ b := Ne.symm HI.out.bS
  have hRG : R ≠ G := HI.out.rg
  have hRS : R ≠ S := HI.out.rs
  have hGR : G ≠ R := Ne.symm hRG
  have hSR : S ≠ R := Ne.symm hRS
  have hbR : b ≠ R := HI.out.br
  have hbS : b ≠ S := HI.out.bS
  have hn : j.next = (j.at', swapC (cKey j.k) (ceTxt j.nx) j.sv, true) := by unfold Jb.next; rw [if_neg (by omega), if_pos hp]
  have HP : Hid (j.ph = 1) := hp
  clear hp
  obtain ⟨t, Ht⟩ : ∃ t, Hid (t = ceTxt j.nx) := ⟨_, rfl⟩
  have TX : ∀ Y, Calls Tryz.prog 83 #[.agg #[.int .i64 j.nx.s, .int .i64 j.nx.h, .int .i64 j.nx.g, .int .i64 j.nx.n, .string (bs j.nx.v)]] Y fun e w' => e = .returned (.string (bs t)) ∧ Kept Nil Y w' := fun Y => by rw [Ht.out]; exact refText_any j.nx Y (O.out.nx (.inl HP.out))
  have q12 : X.cell? ⟨b, 12, none⟩ = some (.int .i64 j.nx.s) := blk_at HJ.out 12 rfl
  have q13 : X.cell? ⟨b, 13, none⟩ = some (.int .i64 j.nx.h) := blk_at HJ.out 13 rfl
  have q14 : X.cell? ⟨b, 14, none⟩ = some (.int .i64 j.nx.g) := blk_at HJ.out 14 rfl
  have q15 : X.cell? ⟨b, 15, none⟩ = some (.int .i64 j.nx.n) := blk_at HJ.out 15 rfl
  have q16 : X.cell? ⟨b, 16, none⟩ = some (.string (bs j.nx.v)) := blk_at HJ.out 16 rfl
  go_upto_region 7 with fail
  go_wp2_with fail
  go_fit (TX _)
  rintro _ w1 ⟨rfl, k1⟩
  have K1 : Hid (Kept Nil X w1) := k1
  clear k1
  have HJ1 : Hid (JdAt w1 b j K) := HJ.out.kept K1.out
  have HR1 : Hid (CdAt w1 R 0 [] [] 0) := HI.out.cr.kept K1.out
  have HS1 : Hid (CdAt w1 S 4 kk [] j.sv) := HI.out.cs.kept K1.out
  have KW1 : Hid (Kept Nil w w1) := HI.out.kp.trans K1.out
  obtain ⟨Z, hZ⟩ : ∃ Z, Z = (w1.setCell ⟨S, 2, none⟩ (.string (bs t))) := ⟨_, rfl⟩
  have HZ : Hid (JdAt Z b j K ∧ CdAt Z R 0 [] [] 0 ∧ CdAt Z S 4 kk t (j.sv) ∧ Kept Nil w Z) := by rw [hZ]; exact ⟨(blk_other (a := ⟨S, 2, none⟩) HJ1.out hbS _), (CdAt.off HR1.out hRS 2 _), (blk_set HS1.out 2 _), (KW1.out.setNew (p := ⟨S, 2, none⟩) HI.out.ws _)⟩
  have s0 : w1.cell? ⟨S, 0, none⟩ = some (.int .i64 4) := blk_at HS1.out 0 rfl
  have s1 : w1.cell? ⟨S, 1, none⟩ = some (.string (bs kk)) := blk_at HS1.out 1 rfl
  have s2 : w1.cell? ⟨S, 2, none⟩ = some (.string ⟨#[]⟩) := blk_at HS1.out 2 rfl
  have s3 : w1.cell? ⟨S, 3, none⟩ = some (.int .i64 j.sv) := blk_at HS1.out 3 rfl
  have sf0 : w1.frozen? ⟨S, 0, none⟩ = false := blk_free HS1.out 0
  have sf1 : w1.frozen? ⟨S, 1, none⟩ = false := blk_free HS1.out 1
  have sf2 : w1.frozen? ⟨S, 2, none⟩ = false := blk_free HS1.out 2
  have sf3 : w1.frozen? ⟨S, 3, none⟩ = false := blk_free HS1.out 3
  go_upto_region 8 with fail
  rw [← hZ]
  clear hZ s0 s1 s2 s3 sf0 sf1 sf2 sf3 q6
  obtain ⟨Y, hY⟩ : ∃ Y, Y = ((((Z.setCell ⟨R, 0, none⟩ (.int .i64 4)).setCell ⟨R, 1, none⟩ (.string (bs kk))).setCell ⟨R, 2, none⟩ (.string (bs t))).setCell ⟨R, 3, none⟩ (.int .i64 j.sv)).drew := ⟨_, rfl⟩
  have HY : Hid (CdAt Y R (4) (kk) (t) (j.sv) ∧ Kept Nil w Y) := by rw [hY]; exact ⟨CdAt.all HZ.out.2.1 _ _ _ _, ((((HZ.out.2.2.2.setNew (p := ⟨R, 0, none⟩) HI.out.wr _).setNew (p := ⟨R, 1, none⟩) HI.out.wr _).setNew (p := ⟨R, 2, none⟩) HI.out.wr _).setNew (p := ⟨R, 3, none⟩) HI.out.wr _).drew⟩
  have q0 : Z.cell? ⟨b, 0, none⟩ = some (.int .i64 j.at') := blk_at HZ.out.1 0 rfl
  have s0 : Z.cell? ⟨S, 0, none⟩ = some (.int .i64 4) := blk_at HZ.out.2.2.1 0 rfl
  have s1 : Z.cell? ⟨S, 1, none⟩ = some (.string (bs kk)) := blk_at HZ.out.2.2.1 1 rfl
  have s2 : Z.cell? ⟨S, 2, none⟩ = some (.string (bs t)) := blk_at HZ.out.2.2.1 2 rfl
  have s3 : Z.cell? ⟨S, 3, none⟩ = some (.int .i64 j.sv) := blk_at HZ.out.2.2.1 3 rfl
  have r0 : Z.cell? ⟨R, 0, none⟩ = some (.int .i64 0) := blk_at HZ.out.2.1 0 rfl
  have r1 : Z.cell? ⟨R, 1, none⟩ = some (.string ⟨#[]⟩) := blk_at HZ.out.2.1 1 rfl
  have r2 : Z.cell? ⟨R, 2, none⟩ = some (.string ⟨#[]⟩) := blk_at HZ.out.2.1 2 rfl
  have r3 : Z.cell? ⟨R, 3, none⟩ = some (.int .i64 0) := blk_at HZ.out.2.1 3 rfl
  have rf0 : Z.frozen? ⟨R, 0, none⟩ = false := blk_free HZ.out.2.1 0
  have rf1 : Z.frozen? ⟨R, 1, none⟩ = false := blk_free HZ.out.2.1 1
  have rf2 : Z.frozen? ⟨R, 2, none⟩ = false := blk_free HZ.out.2.1 2
  have rf3 : Z.frozen? ⟨R, 3, none⟩ = false := blk_free HZ.out.2.1 3
  go_region
  all_goals
    go_wp2
    rw [← hY]
    have j0 : Y.cell? ⟨R, 0, none⟩ = some (.int .i64 4) := blk_at HY.out.1 0 rfl
    have j1 : Y.cell? ⟨R, 1, none⟩ = some (.string (bs kk)) := blk_at HY.out.1 1 rfl
    have j2 : Y.cell? ⟨R, 2, none⟩ = some (.string (bs t)) := blk_at HY.out.1 2 rfl
    have j3 : Y.cell? ⟨R, 3, none⟩ = some (.int .i64 j.sv) := blk_at HY.out.1 3 rfl
    exact bodyPost_ret (v := .tuple #[.int .i64 j.at', .agg #[.int .i64 4, .string (bs kk), .string (bs t), .int .i64 j.sv], .bool true]) (by simp [results, Tryz.results27, go_sem, j0, j1, j2, j3]) rfl ⟨by rw [hn, ← Hk.out, ← Ht.out]; rfl, HY.out.2⟩
set_option maxRecDepth 100000 in
set_option maxHeartbeats 4000000 in
theorem jnT3 (w X : World) (b R G S : Nat) (j : Jb) (K : Jk) (kk : List UInt8) (HI : Hid (CmIn w X b R G S j K kk)) (Hk : Hid (kk = cKey j.k)) (hp : j.ph = 3) (_O : Hid j.Ok) (fv1 fv2 fv4 fv7 fv8 fv9 fv10 fv11 fv12 fv13 fv14 fv15 fv16 fv17 fv18 fv19 fv20 fv21 fv22 fv23 fv24 fv25 fv26 fv27 fv28 fv29 fv30 fv31 fv32 fv33 fv34 fv35 fv36 fv37 fv38 fv39 fv40 fv41 fv42 fv43 fv44 fv45 fv46 fv47 fv48 fv49 fv50 fv51 fv52 fv53 fv54 fv55 fv56 fv57 fv58 fv59 fv60 fv61 fv62 fv63 fv64 fv65 fv66 fv67 fv68 fv69 fv70 fv71 fv72 fv73 fv74 fv75 fv76 fv77 fv78 fv79 fv80 fv81 fv82 fv83 fv84 fv85 fv86 fv87 fv88 fv89 fv90 fv91 fv92 fv93 fv94 fv95 fv96 fv97 fv98 fv99 fv100 fv101 fv102 fv103 fv104 fv105 fv106 fv107 fv108 fv109 fv110 fv111 fv112 fv113 fv114 fv115 fv116 fv117 fv118 fv119 fv120 fv121 fv122 fv123 fv124 fv125 fv126 fv127 fv128 fv129 fv130 : Value) :
    Code.wp Tryz.prog nT3 (bodyPost Tryz.prog Tryz.f27 (CNPost w j.next)) ⟨#[.pointer (some ⟨b, 0, none⟩), fv1, fv2, .pointer (some ⟨R, 0, none⟩), fv4, .pointer (some ⟨G, 0, none⟩), .pointer (some ⟨S, 0, none⟩), fv7, fv8, fv9, fv10, fv11, fv12, fv13, fv14, fv15, fv16, fv17, fv18, fv19, fv20, fv21, fv22, fv23, fv24, fv25, fv26, fv27, fv28, fv29, fv30, fv31, fv32, fv33, fv34, fv35, fv36, fv37, fv38, fv39, fv40, fv41, fv42, fv43, fv44, fv45, fv46, fv47, fv48, fv49, fv50, fv51, fv52, fv53, fv54, fv55, fv56, fv57, fv58, fv59, fv60, fv61, fv62, fv63, fv64, fv65, fv66, fv67, fv68, fv69, fv70, fv71, fv72, fv73, fv74, fv75, fv76, fv77, fv78, fv79, fv80, fv81, fv82, fv83, fv84, fv85, fv86, fv87, fv88, fv89, fv90, fv91, fv92, fv93, fv94, fv95, fv96, fv97, fv98, fv99, fv100, fv101, fv102, fv103, fv104, fv105, fv106, fv107, fv108, fv109, fv110, fv111, fv112, fv113, fv114, fv115, fv116, fv117, fv118, fv119, fv120, fv121, fv122, fv123, fv124, fv125, fv126, fv127, fv128, fv129, fv130], []⟩ X := by
  conv => arg 2; whnf
  dsimp only
  have HJ : Hid (JdAt X b j K) := HI.out.jd
  have q6 : X.cell? ⟨b, 6, none⟩ = some (.int .i64 4) := by
    have e : X.cell? ⟨b, 6, none⟩ = some (.int .i64 ((j.ph : Int) + 1)) := blk_at HJ.out 6 rfl
    rw [hp] at e
    exact e
  have hRb : R ≠ b := Ne.symm HI.out.br
  have hSb : S ≠ b := Ne.symm HI.out.bS
  have hRG : R ≠ G := HI.out.rg
  have hRS : R ≠ S := HI.out.rs
  have hGR : G ≠ R := Ne.symm hRG
  have hSR : S ≠ R := Ne.symm hRS
  have hbR : b ≠ R := HI.out.br
  have hbS : b ≠ S := HI.out.bS
  have hn : j.next = (j.tg, swapC (cKey j.k) (ceTxt (unsaid j.tg)) 0, true) := by unfold Jb.next; rw [if_neg (by omega), if_neg (by omega), if_neg (by omega), if_pos hp]
  have HP : Hid (j.ph = 3) := hp
  clear hp
  obtain ⟨t, Ht⟩ : ∃ t, Hid (t = ceTxt (unsaid j.tg)) := ⟨_, rfl⟩
  have TX : ∀ Y, Calls Tryz.prog 83 #[.agg #[.int .i64 (unsaid j.tg).s, .int .i64 (unsaid j.tg).h, .int .i64 (unsaid j.tg).g, .int .i64 (unsaid j.tg).n, .string (bs (unsaid j.tg).v)]] Y fun e w' => e = .returned (.string (bs t)) ∧ Kept Nil Y w' := fun Y => by rw [Ht.out]; exact refText_any (unsaid j.tg) Y (unsaid_ok _)
  have FC := refFirstCell_any j.tg X
  unfold ccV at FC
  have q1 : X.cell? ⟨b, 1, none⟩ = some (.int .i64 j.tg) := blk_at HJ.out 1 rfl
  go_upto_region 12 with fail
  go_wp2_with fail
  go_fit FC
  rintro _ w0 ⟨rfl, k0⟩
  go_wp2_with fail
  go_fit (TX _)
  rintro _ w1 ⟨rfl, k1⟩
  have K1 : Hid (Kept Nil X w1) := k0.trans k1
  clear k1
  have HJ1 : Hid (JdAt w1 b j K) := HJ.out.kept K1.out
  have HR1 : Hid (CdAt w1 R 0 [] [] 0) := HI.out.cr.kept K1.out
  have HS1 : Hid (CdAt w1 S 4 kk [] j.sv) := HI.out.cs.kept K1.out
  have KW1 : Hid (Kept Nil w w1) := HI.out.kp.trans K1.out
  obtain ⟨Z, hZ⟩ : ∃ Z, Z = ((w1.setCell ⟨S, 2, none⟩ (.string (bs t))).setCell ⟨S, 3, none⟩ (.int .i64 0)) := ⟨_, rfl⟩
  have HZ : Hid (JdAt Z b j K ∧ CdAt Z R 0 [] [] 0 ∧ CdAt Z S 4 kk t (0) ∧ Kept Nil w Z) := by rw [hZ]; exact ⟨(blk_other (a := ⟨S, 3, none⟩) (blk_other (a := ⟨S, 2, none⟩) HJ1.out hbS _) hbS _), (CdAt.off (CdAt.off HR1.out hRS 2 _) hRS 3 _), (blk_set (blk_set HS1.out 2 _) 3 _), ((KW1.out.setNew (p := ⟨S, 2, none⟩) HI.out.ws _).setNew (p := ⟨S, 3, none⟩) HI.out.ws _)⟩
  have s0 : w1.cell? ⟨S, 0, none⟩ = some (.int .i64 4) := blk_at HS1.out 0 rfl
  have s1 : w1.cell? ⟨S, 1, none⟩ = some (.string (bs kk)) := blk_at HS1.out 1 rfl
  have s2 : w1.cell? ⟨S, 2, none⟩ = some (.string ⟨#[]⟩) := blk_at HS1.out 2 rfl
  have s3 : w1.cell? ⟨S, 3, none⟩ = some (.int .i64 j.sv) := blk_at HS1.out 3 rfl
  have sf0 : w1.frozen? ⟨S, 0, none⟩ = false := blk_free HS1.out 0
  have sf1 : w1.frozen? ⟨S, 1, none⟩ = false := blk_free HS1.out 1
  have sf2 : w1.frozen? ⟨S, 2, none⟩ = false := blk_free HS1.out 2
  have sf3 : w1.frozen? ⟨S, 3, none⟩ = false := blk_free HS1.out 3
  go_upto_region 14 with fail
  rw [← hZ]
  clear hZ s0 s1 s2 s3 sf0 sf1 sf2 sf3 q6
  obtain ⟨Y, hY⟩ : ∃ Y, Y = ((((Z.setCell ⟨R, 0, none⟩ (.int .i64 4)).setCell ⟨R, 1, none⟩ (.string (bs kk))).setCell ⟨R, 2, none⟩ (.string (bs t))).setCell ⟨R, 3, none⟩ (.int .i64 0)).drew := ⟨_, rfl⟩
  have HY : Hid (CdAt Y R (4) (kk) (t) (0) ∧ Kept Nil w Y) := by rw [hY]; exact ⟨CdAt.all HZ.out.2.1 _ _ _ _, ((((HZ.out.2.2.2.setNew (p := ⟨R, 0, none⟩) HI.out.wr _).setNew (p := ⟨R, 1, none⟩) HI.out.wr _).setNew (p := ⟨R, 2, none⟩) HI.out.wr _).setNew (p := ⟨R, 3, none⟩) HI.out.wr _).drew⟩
  have q1 : Z.cell? ⟨b, 1, none⟩ = some (.int .i64 j.tg) := blk_at HZ.out.1 1 rfl
  have s0 : Z.cell? ⟨S, 0, none⟩ = some (.int .i64 4) := blk_at HZ.out.2.2.1 0 rfl
  have s1 : Z.cell? ⟨S, 1, none⟩ = some (.string (bs kk)) := blk_at HZ.out.2.2.1 1 rfl
  have s2 : Z.cell? ⟨S, 2, none⟩ = some (.string (bs t)) := blk_at HZ.out.2.2.1 2 rfl
  have s3 : Z.cell? ⟨S, 3, none⟩ = some (.int .i64 0) := blk_at HZ.out.2.2.1 3 rfl
  have r0 : Z.cell? ⟨R, 0, none⟩ = some (.int .i64 0) := blk_at HZ.out.2.1 0 rfl
  have r1 : Z.cell? ⟨R, 1, none⟩ = some (.string ⟨#[]⟩) := blk_at HZ.out.2.1 1 rfl
  have r2 : Z.cell? ⟨R, 2, none⟩ = some (.string ⟨#[]⟩) := blk_at HZ.out.2.1 2 rfl
  have r3 : Z.cell? ⟨R, 3, none⟩ = some (.int .i64 0) := blk_at HZ.out.2.1 3 rfl
  have rf0 : Z.frozen? ⟨R, 0, none⟩ = false := blk_free HZ.out.2.1 0
  have rf1 : Z.frozen? ⟨R, 1, none⟩ = false := blk_free HZ.out.2.1 1
  have rf2 : Z.frozen? ⟨R, 2, none⟩ = false := blk_free HZ.out.2.1 2
  have rf3 : Z.frozen? ⟨R, 3, none⟩ = false := blk_free HZ.out.2.1 3
  go_region
  all_goals
    go_wp2
    rw [← hY]
    have j0 : Y.cell? ⟨R, 0, none⟩ = some (.int .i64 4) := blk_at HY.out.1 0 rfl
    have j1 : Y.cell? ⟨R, 1, none⟩ = some (.string (bs kk)) := blk_at HY.out.1 1 rfl
    have j2 : Y.cell? ⟨R, 2, none⟩ = some (.string (bs t)) := blk_at HY.out.1 2 rfl
    have j3 : Y.cell? ⟨R, 3, none⟩ = some (.int .i64 0) := blk_at HY.out.1 3 rfl
    exact bodyPost_ret (v := .tuple #[.int .i64 j.tg, .agg #[.int .i64 4, .string (bs kk), .string (bs t), .int .i64 0], .bool true]) (by simp [results, Tryz.results27, go_sem, j0, j1, j2, j3]) rfl ⟨by rw [hn, ← Hk.out, ← Ht.out]; rfl, HY.out.2⟩
set_option maxRecDepth 100000 in
set_option maxHeartbeats 4000000 in
theorem jnT5 (w X : World) (b R G S : Nat) (j : Jb) (K : Jk) (kk : List UInt8) (HI : Hid (CmIn w X b R G S j K kk)) (Hk : Hid (kk = cKey j.k)) (hp : j.ph = 5) (O : Hid j.Ok) (fv1 fv2 fv4 fv7 fv8 fv9 fv10 fv11 fv12 fv13 fv14 fv15 fv16 fv17 fv18 fv19 fv20 fv21 fv22 fv23 fv24 fv25 fv26 fv27 fv28 fv29 fv30 fv31 fv32 fv33 fv34 fv35 fv36 fv37 fv38 fv39 fv40 fv41 fv42 fv43 fv44 fv45 fv46 fv47 fv48 fv49 fv50 fv51 fv52 fv53 fv54 fv55 fv56 fv57 fv58 fv59 fv60 fv61 fv62 fv63 fv64 fv65 fv66 fv67 fv68 fv69 fv70 fv71 fv72 fv73 fv74 fv75 fv76 fv77 fv78 fv79 fv80 fv81 fv82 fv83 fv84 fv85 fv86 fv87 fv88 fv89 fv90 fv91 fv92 fv93 fv94 fv95 fv96 fv97 fv98 fv99 fv100 fv101 fv102 fv103 fv104 fv105 fv106 fv107 fv108 fv109 fv110 fv111 fv112 fv113 fv114 fv115 fv116 fv117 fv118 fv119 fv120 fv121 fv122 fv123 fv124 fv125 fv126 fv127 fv128 fv129 fv130 : Value) :
    Code.wp Tryz.prog nT3 (bodyPost Tryz.prog Tryz.f27 (CNPost w j.next)) ⟨#[.pointer (some ⟨b, 0, none⟩), fv1, fv2, .pointer (some ⟨R, 0, none⟩), fv4, .pointer (some ⟨G, 0, none⟩), .pointer (some ⟨S, 0, none⟩), fv7, fv8, fv9, fv10, fv11, fv12, fv13, fv14, fv15, fv16, fv17, fv18, fv19, fv20, fv21, fv22, fv23, fv24, fv25, fv26, fv27, fv28, fv29, fv30, fv31, fv32, fv33, fv34, fv35, fv36, fv37, fv38, fv39, fv40, fv41, fv42, fv43, fv44, fv45, fv46, fv47, fv48, fv49, fv50, fv51, fv52, fv53, fv54, fv55, fv56, fv57, fv58, fv59, fv60, fv61, fv62, fv63, fv64, fv65, fv66, fv67, fv68, fv69, fv70, fv71, fv72, fv73, fv74, fv75, fv76, fv77, fv78, fv79, fv80, fv81, fv82, fv83, fv84, fv85, fv86, fv87, fv88, fv89, fv90, fv91, fv92, fv93, fv94, fv95, fv96, fv97, fv98, fv99, fv100, fv101, fv102, fv103, fv104, fv105, fv106, fv107, fv108, fv109, fv110, fv111, fv112, fv113, fv114, fv115, fv116, fv117, fv118, fv119, fv120, fv121, fv122, fv123, fv124, fv125, fv126, fv127, fv128, fv129, fv130], []⟩ X := by
  conv => arg 2; whnf
  dsimp only
  have HJ : Hid (JdAt X b j K) := HI.out.jd
  have q6 : X.cell? ⟨b, 6, none⟩ = some (.int .i64 6) := by
    have e : X.cell? ⟨b, 6, none⟩ = some (.int .i64 ((j.ph : Int) + 1)) := blk_at HJ.out 6 rfl
    rw [hp] at e
    exact e
  have hRb : R ≠ b := Ne.symm HI.out.br
  have hSb : S ≠ b := Ne.symm HI.out.bS
  have hRG : R ≠ G := HI.out.rg
  have hRS : R ≠ S := HI.out.rs
  have hGR : G ≠ R := Ne.symm hRG
  have hSR : S ≠ R := Ne.symm hRS
  have hbR : b ≠ R := HI.out.br
  have hbS : b ≠ S := HI.out.bS
  have hn : j.next = (j.sn.g, swapC (cKey j.k) (ceTxt j.sn.arrived) j.sp, true) := by unfold Jb.next; rw [if_neg (by omega), if_neg (by omega), if_neg (by omega), if_neg (by omega), if_neg (by omega), if_pos hp]
  have HP : Hid (j.ph = 5) := hp
  clear hp
  obtain ⟨t, Ht⟩ : ∃ t, Hid (t = ceTxt j.sn.arrived) := ⟨_, rfl⟩
  have TX : ∀ Y, Calls Tryz.prog 83 #[.agg #[.int .i64 0, .int .i64 j.sn.h, .int .i64 0, .int .i64 j.sn.n, .string (bs j.sn.v)]] Y fun e w' => e = .returned (.string (bs t)) ∧ Kept Nil Y w' := fun Y => by rw [Ht.out]; exact refText_any j.sn.arrived Y O.out.sn.arrived
  have q8 : X.cell? ⟨b, 8, none⟩ = some (.int .i64 j.sn.h) := blk_at HJ.out 8 rfl
  have q10 : X.cell? ⟨b, 10, none⟩ = some (.int .i64 j.sn.n) := blk_at HJ.out 10 rfl
  have q11 : X.cell? ⟨b, 11, none⟩ = some (.string (bs j.sn.v)) := blk_at HJ.out 11 rfl
  go_upto_region 18 with fail
  have SS : ∀ Y, Kept Nil X Y → (Y.cell? ⟨b, 8, none⟩ = some (.int .i64 j.sn.h) ∧ Y.cell? ⟨b, 10, none⟩ = some (.int .i64 j.sn.n) ∧ Y.cell? ⟨b, 11, none⟩ = some (.string (bs j.sn.v))) := fun Y kY => ⟨blk_at (HJ.out.kept kY) 8 rfl, blk_at (HJ.out.kept kY) 10 rfl, blk_at (HJ.out.kept kY) 11 rfl⟩
  have HS0 : Hid (CdAt X S 4 kk [] j.sv) := HI.out.cs
  have SZ : ∀ Y, Kept Nil X Y → ((Y.setCell ⟨S, 2, none⟩ (.string (bs t))).cell? ⟨b, 8, none⟩ = some (.int .i64 j.sn.h) ∧ (Y.setCell ⟨S, 2, none⟩ (.string (bs t))).cell? ⟨b, 10, none⟩ = some (.int .i64 j.sn.n) ∧ (Y.setCell ⟨S, 2, none⟩ (.string (bs t))).cell? ⟨b, 11, none⟩ = some (.string (bs j.sn.v))) := fun Y kY => ⟨blk_at (blk_other (a := ⟨S, 2, none⟩) (HJ.out.kept kY) hbS _) 8 rfl, blk_at (blk_other (a := ⟨S, 2, none⟩) (HJ.out.kept kY) hbS _) 10 rfl, blk_at (blk_other (a := ⟨S, 2, none⟩) (HJ.out.kept kY) hbS _) 11 rfl⟩
  go_region_held3 (fun w' => w'.cell? ⟨b, 8, none⟩ = some (.int .i64 j.sn.h) ∧ w'.cell? ⟨b, 10, none⟩ = some (.int .i64 j.sn.n) ∧ w'.cell? ⟨b, 11, none⟩ = some (.string (bs j.sn.v))) (first | (with_reducible assumption) | (refine SS _ ?_; repeat (first | (with_reducible exact Ka.out) | (with_reducible exact Kept.refl _ _) | (with_reducible refine Kept.drew ?_)))) (first | (go_at_call 83; go_must (go_fit (TX _)); rintro _ w1 ⟨rfl, ka⟩; have Ka : Hid (Kept Nil X w1) := Kept.trans (by repeat (first | exact Kept.refl _ _ | refine Kept.drew ?_)) ka; have sa := SS w1 Ka.out; have sz := SZ w1 Ka.out; have hs2 : w1.cell? ⟨S, 2, none⟩ = some (.string ⟨#[]⟩) := blk_at (HS0.out.kept Ka.out) 2 rfl; have hsf : w1.frozen? ⟨S, 2, none⟩ = false := blk_free (HS0.out.kept Ka.out) 2; clear ka))
  all_goals
    have K1 : Hid (Kept Nil X w1) := Ka.out
    clear q8 q10 q11 hs2 hsf sa sz TX
    have HJ1 : Hid (JdAt w1 b j K) := HJ.out.kept K1.out
    have HR1 : Hid (CdAt w1 R 0 [] [] 0) := HI.out.cr.kept K1.out
    have HS1 : Hid (CdAt w1 S 4 kk [] j.sv) := HI.out.cs.kept K1.out
    have KW1 : Hid (Kept Nil w w1) := HI.out.kp.trans K1.out
    obtain ⟨Z, hZ⟩ : ∃ Z, Z = ((w1.setCell ⟨S, 2, none⟩ (.string (bs t))).setCell ⟨S, 3, none⟩ (.int .i64 j.sp)) := ⟨_, rfl⟩
    have HZ : Hid (JdAt Z b j K ∧ CdAt Z R 0 [] [] 0 ∧ CdAt Z S 4 kk t (j.sp) ∧ Kept Nil w Z) := by rw [hZ]; exact ⟨(blk_other (a := ⟨S, 3, none⟩) (blk_other (a := ⟨S, 2, none⟩) HJ1.out hbS _) hbS _), (CdAt.off (CdAt.off HR1.out hRS 2 _) hRS 3 _), (blk_set (blk_set HS1.out 2 _) 3 _), ((KW1.out.setNew (p := ⟨S, 2, none⟩) HI.out.ws _).setNew (p := ⟨S, 3, none⟩) HI.out.ws _)⟩
    have s0 : w1.cell? ⟨S, 0, none⟩ = some (.int .i64 4) := blk_at HS1.out 0 rfl
    have s1 : w1.cell? ⟨S, 1, none⟩ = some (.string (bs kk)) := blk_at HS1.out 1 rfl
    have s2 : w1.cell? ⟨S, 2, none⟩ = some (.string ⟨#[]⟩) := blk_at HS1.out 2 rfl
    have s3 : w1.cell? ⟨S, 3, none⟩ = some (.int .i64 j.sv) := blk_at HS1.out 3 rfl
    have sf0 : w1.frozen? ⟨S, 0, none⟩ = false := blk_free HS1.out 0
    have sf1 : w1.frozen? ⟨S, 1, none⟩ = false := blk_free HS1.out 1
    have sf2 : w1.frozen? ⟨S, 2, none⟩ = false := blk_free HS1.out 2
    have sf3 : w1.frozen? ⟨S, 3, none⟩ = false := blk_free HS1.out 3
    have q18 : w1.cell? ⟨b, 18, none⟩ = some (.int .i64 j.sp) := blk_at HJ1.out 18 rfl
    go_upto_region 20 with fail
    rw [← hZ]
    clear hZ s0 s1 s2 s3 sf0 sf1 sf2 sf3 q6 q18
    obtain ⟨Y, hY⟩ : ∃ Y, Y = ((((Z.setCell ⟨R, 0, none⟩ (.int .i64 4)).setCell ⟨R, 1, none⟩ (.string (bs kk))).setCell ⟨R, 2, none⟩ (.string (bs t))).setCell ⟨R, 3, none⟩ (.int .i64 j.sp)).drew := ⟨_, rfl⟩
    have HY : Hid (CdAt Y R (4) (kk) (t) (j.sp) ∧ Kept Nil w Y) := by rw [hY]; exact ⟨CdAt.all HZ.out.2.1 _ _ _ _, ((((HZ.out.2.2.2.setNew (p := ⟨R, 0, none⟩) HI.out.wr _).setNew (p := ⟨R, 1, none⟩) HI.out.wr _).setNew (p := ⟨R, 2, none⟩) HI.out.wr _).setNew (p := ⟨R, 3, none⟩) HI.out.wr _).drew⟩
    have q9 : Z.cell? ⟨b, 9, none⟩ = some (.int .i64 j.sn.g) := blk_at HZ.out.1 9 rfl
    have s0 : Z.cell? ⟨S, 0, none⟩ = some (.int .i64 4) := blk_at HZ.out.2.2.1 0 rfl
    have s1 : Z.cell? ⟨S, 1, none⟩ = some (.string (bs kk)) := blk_at HZ.out.2.2.1 1 rfl
    have s2 : Z.cell? ⟨S, 2, none⟩ = some (.string (bs t)) := blk_at HZ.out.2.2.1 2 rfl
    have s3 : Z.cell? ⟨S, 3, none⟩ = some (.int .i64 j.sp) := blk_at HZ.out.2.2.1 3 rfl
    have r0 : Z.cell? ⟨R, 0, none⟩ = some (.int .i64 0) := blk_at HZ.out.2.1 0 rfl
    have r1 : Z.cell? ⟨R, 1, none⟩ = some (.string ⟨#[]⟩) := blk_at HZ.out.2.1 1 rfl
    have r2 : Z.cell? ⟨R, 2, none⟩ = some (.string ⟨#[]⟩) := blk_at HZ.out.2.1 2 rfl
    have r3 : Z.cell? ⟨R, 3, none⟩ = some (.int .i64 0) := blk_at HZ.out.2.1 3 rfl
    have rf0 : Z.frozen? ⟨R, 0, none⟩ = false := blk_free HZ.out.2.1 0
    have rf1 : Z.frozen? ⟨R, 1, none⟩ = false := blk_free HZ.out.2.1 1
    have rf2 : Z.frozen? ⟨R, 2, none⟩ = false := blk_free HZ.out.2.1 2
    have rf3 : Z.frozen? ⟨R, 3, none⟩ = false := blk_free HZ.out.2.1 3
    go_region
    all_goals
      go_wp2
      rw [← hY]
      have j0 : Y.cell? ⟨R, 0, none⟩ = some (.int .i64 4) := blk_at HY.out.1 0 rfl
      have j1 : Y.cell? ⟨R, 1, none⟩ = some (.string (bs kk)) := blk_at HY.out.1 1 rfl
      have j2 : Y.cell? ⟨R, 2, none⟩ = some (.string (bs t)) := blk_at HY.out.1 2 rfl
      have j3 : Y.cell? ⟨R, 3, none⟩ = some (.int .i64 j.sp) := blk_at HY.out.1 3 rfl
      exact bodyPost_ret (v := .tuple #[.int .i64 j.sn.g, .agg #[.int .i64 4, .string (bs kk), .string (bs t), .int .i64 j.sp], .bool true]) (by simp [results, Tryz.results27, go_sem, j0, j1, j2, j3]) rfl ⟨by rw [hn, ← Hk.out, ← Ht.out]; rfl, HY.out.2⟩
set_option maxRecDepth 100000 in
set_option maxHeartbeats 4000000 in
theorem jnT6 (w X : World) (b R G S : Nat) (j : Jb) (K : Jk) (kk : List UInt8) (HI : Hid (CmIn w X b R G S j K kk)) (Hk : Hid (kk = cKey j.k)) (hp : j.ph = 6) (O : Hid j.Ok) (fv1 fv2 fv4 fv7 fv8 fv9 fv10 fv11 fv12 fv13 fv14 fv15 fv16 fv17 fv18 fv19 fv20 fv21 fv22 fv23 fv24 fv25 fv26 fv27 fv28 fv29 fv30 fv31 fv32 fv33 fv34 fv35 fv36 fv37 fv38 fv39 fv40 fv41 fv42 fv43 fv44 fv45 fv46 fv47 fv48 fv49 fv50 fv51 fv52 fv53 fv54 fv55 fv56 fv57 fv58 fv59 fv60 fv61 fv62 fv63 fv64 fv65 fv66 fv67 fv68 fv69 fv70 fv71 fv72 fv73 fv74 fv75 fv76 fv77 fv78 fv79 fv80 fv81 fv82 fv83 fv84 fv85 fv86 fv87 fv88 fv89 fv90 fv91 fv92 fv93 fv94 fv95 fv96 fv97 fv98 fv99 fv100 fv101 fv102 fv103 fv104 fv105 fv106 fv107 fv108 fv109 fv110 fv111 fv112 fv113 fv114 fv115 fv116 fv117 fv118 fv119 fv120 fv121 fv122 fv123 fv124 fv125 fv126 fv127 fv128 fv129 fv130 : Value) :
    Code.wp Tryz.prog nT3 (bodyPost Tryz.prog Tryz.f27 (CNPost w j.next)) ⟨#[.pointer (some ⟨b, 0, none⟩), fv1, fv2, .pointer (some ⟨R, 0, none⟩), fv4, .pointer (some ⟨G, 0, none⟩), .pointer (some ⟨S, 0, none⟩), fv7, fv8, fv9, fv10, fv11, fv12, fv13, fv14, fv15, fv16, fv17, fv18, fv19, fv20, fv21, fv22, fv23, fv24, fv25, fv26, fv27, fv28, fv29, fv30, fv31, fv32, fv33, fv34, fv35, fv36, fv37, fv38, fv39, fv40, fv41, fv42, fv43, fv44, fv45, fv46, fv47, fv48, fv49, fv50, fv51, fv52, fv53, fv54, fv55, fv56, fv57, fv58, fv59, fv60, fv61, fv62, fv63, fv64, fv65, fv66, fv67, fv68, fv69, fv70, fv71, fv72, fv73, fv74, fv75, fv76, fv77, fv78, fv79, fv80, fv81, fv82, fv83, fv84, fv85, fv86, fv87, fv88, fv89, fv90, fv91, fv92, fv93, fv94, fv95, fv96, fv97, fv98, fv99, fv100, fv101, fv102, fv103, fv104, fv105, fv106, fv107, fv108, fv109, fv110, fv111, fv112, fv113, fv114, fv115, fv116, fv117, fv118, fv119, fv120, fv121, fv122, fv123, fv124, fv125, fv126, fv127, fv128, fv129, fv130], []⟩ X := by
  conv => arg 2; whnf
  dsimp only
  have HJ : Hid (JdAt X b j K) := HI.out.jd
  have q6 : X.cell? ⟨b, 6, none⟩ = some (.int .i64 7) := by
    have e : X.cell? ⟨b, 6, none⟩ = some (.int .i64 ((j.ph : Int) + 1)) := blk_at HJ.out 6 rfl
    rw [hp] at e
    exact e
  have hRb : R ≠ b := Ne.symm HI.out.br
  have hSb : S ≠ b := Ne.symm HI.out.bS
  have hRG : R ≠ G := HI.out.rg
  have hRS : R ≠ S := HI.out.rs
  have hGR : G ≠ R := Ne.symm hRG
  have hSR : S ≠ R := Ne.symm hRS
  have hbR : b ≠ R := HI.out.br
  have hbS : b ≠ S := HI.out.bS
  have hn : j.next = (j.at', swapC (cKey j.k) (ceTxt j.sn.left) j.sv, true) := by unfold Jb.next; rw [if_neg (by omega), if_neg (by omega), if_neg (by omega), if_neg (by omega), if_neg (by omega), if_neg (by omega), if_pos hp]
  have HP : Hid (j.ph = 6) := hp
  clear hp
  obtain ⟨t, Ht⟩ : ∃ t, Hid (t = ceTxt j.sn.left) := ⟨_, rfl⟩
  have TX : ∀ Y, Calls Tryz.prog 83 #[.agg #[.int .i64 2, .int .i64 j.sn.h, .int .i64 j.sn.g, .int .i64 0, .string ⟨#[]⟩]] Y fun e w' => e = .returned (.string (bs t)) ∧ Kept Nil Y w' := fun Y => by rw [Ht.out]; exact refText_any j.sn.left Y (O.out.sn.left (by have := O.out.snm (by have := HP.out; omega); omega))
  have q8 : X.cell? ⟨b, 8, none⟩ = some (.int .i64 j.sn.h) := blk_at HJ.out 8 rfl
  have q9 : X.cell? ⟨b, 9, none⟩ = some (.int .i64 j.sn.g) := blk_at HJ.out 9 rfl
  go_upto_region 22 with fail
  have SS : ∀ Y, Kept Nil X Y → (Y.cell? ⟨b, 8, none⟩ = some (.int .i64 j.sn.h) ∧ Y.cell? ⟨b, 9, none⟩ = some (.int .i64 j.sn.g)) := fun Y kY => ⟨blk_at (HJ.out.kept kY) 8 rfl, blk_at (HJ.out.kept kY) 9 rfl⟩
  have HS0 : Hid (CdAt X S 4 kk [] j.sv) := HI.out.cs
  have SZ : ∀ Y, Kept Nil X Y → ((Y.setCell ⟨S, 2, none⟩ (.string (bs t))).cell? ⟨b, 8, none⟩ = some (.int .i64 j.sn.h) ∧ (Y.setCell ⟨S, 2, none⟩ (.string (bs t))).cell? ⟨b, 9, none⟩ = some (.int .i64 j.sn.g)) := fun Y kY => ⟨blk_at (blk_other (a := ⟨S, 2, none⟩) (HJ.out.kept kY) hbS _) 8 rfl, blk_at (blk_other (a := ⟨S, 2, none⟩) (HJ.out.kept kY) hbS _) 9 rfl⟩
  go_region_held3 (fun w' => w'.cell? ⟨b, 8, none⟩ = some (.int .i64 j.sn.h) ∧ w'.cell? ⟨b, 9, none⟩ = some (.int .i64 j.sn.g)) (first | (with_reducible assumption) | (refine SS _ ?_; repeat (first | (with_reducible exact Ka.out) | (with_reducible exact Kept.refl _ _) | (with_reducible refine Kept.drew ?_)))) (first | (go_at_call 83; go_must (go_fit (TX _)); rintro _ w1 ⟨rfl, ka⟩; have Ka : Hid (Kept Nil X w1) := Kept.trans (by repeat (first | exact Kept.refl _ _ | refine Kept.drew ?_)) ka; have sa := SS w1 Ka.out; have sz := SZ w1 Ka.out; have hs2 : w1.cell? ⟨S, 2, none⟩ = some (.string ⟨#[]⟩) := blk_at (HS0.out.kept Ka.out) 2 rfl; have hsf : w1.frozen? ⟨S, 2, none⟩ = false := blk_free (HS0.out.kept Ka.out) 2; clear ka))
  all_goals
    have K1 : Hid (Kept Nil X w1) := Ka.out
    clear q8 q9 hs2 hsf sa sz TX
    have HJ1 : Hid (JdAt w1 b j K) := HJ.out.kept K1.out
    have HR1 : Hid (CdAt w1 R 0 [] [] 0) := HI.out.cr.kept K1.out
    have HS1 : Hid (CdAt w1 S 4 kk [] j.sv) := HI.out.cs.kept K1.out
    have KW1 : Hid (Kept Nil w w1) := HI.out.kp.trans K1.out
    obtain ⟨Z, hZ⟩ : ∃ Z, Z = (w1.setCell ⟨S, 2, none⟩ (.string (bs t))) := ⟨_, rfl⟩
    have HZ : Hid (JdAt Z b j K ∧ CdAt Z R 0 [] [] 0 ∧ CdAt Z S 4 kk t (j.sv) ∧ Kept Nil w Z) := by rw [hZ]; exact ⟨(blk_other (a := ⟨S, 2, none⟩) HJ1.out hbS _), (CdAt.off HR1.out hRS 2 _), (blk_set HS1.out 2 _), (KW1.out.setNew (p := ⟨S, 2, none⟩) HI.out.ws _)⟩
    have s0 : w1.cell? ⟨S, 0, none⟩ = some (.int .i64 4) := blk_at HS1.out 0 rfl
    have s1 : w1.cell? ⟨S, 1, none⟩ = some (.string (bs kk)) := blk_at HS1.out 1 rfl
    have s2 : w1.cell? ⟨S, 2, none⟩ = some (.string ⟨#[]⟩) := blk_at HS1.out 2 rfl
    have s3 : w1.cell? ⟨S, 3, none⟩ = some (.int .i64 j.sv) := blk_at HS1.out 3 rfl
    have sf0 : w1.frozen? ⟨S, 0, none⟩ = false := blk_free HS1.out 0
    have sf1 : w1.frozen? ⟨S, 1, none⟩ = false := blk_free HS1.out 1
    have sf2 : w1.frozen? ⟨S, 2, none⟩ = false := blk_free HS1.out 2
    have sf3 : w1.frozen? ⟨S, 3, none⟩ = false := blk_free HS1.out 3
    go_upto_region 23 with fail
    rw [← hZ]
    clear hZ s0 s1 s2 s3 sf0 sf1 sf2 sf3 q6
    obtain ⟨Y, hY⟩ : ∃ Y, Y = ((((Z.setCell ⟨R, 0, none⟩ (.int .i64 4)).setCell ⟨R, 1, none⟩ (.string (bs kk))).setCell ⟨R, 2, none⟩ (.string (bs t))).setCell ⟨R, 3, none⟩ (.int .i64 j.sv)).drew := ⟨_, rfl⟩
    have HY : Hid (CdAt Y R (4) (kk) (t) (j.sv) ∧ Kept Nil w Y) := by rw [hY]; exact ⟨CdAt.all HZ.out.2.1 _ _ _ _, ((((HZ.out.2.2.2.setNew (p := ⟨R, 0, none⟩) HI.out.wr _).setNew (p := ⟨R, 1, none⟩) HI.out.wr _).setNew (p := ⟨R, 2, none⟩) HI.out.wr _).setNew (p := ⟨R, 3, none⟩) HI.out.wr _).drew⟩
    have q0 : Z.cell? ⟨b, 0, none⟩ = some (.int .i64 j.at') := blk_at HZ.out.1 0 rfl
    have s0 : Z.cell? ⟨S, 0, none⟩ = some (.int .i64 4) := blk_at HZ.out.2.2.1 0 rfl
    have s1 : Z.cell? ⟨S, 1, none⟩ = some (.string (bs kk)) := blk_at HZ.out.2.2.1 1 rfl
    have s2 : Z.cell? ⟨S, 2, none⟩ = some (.string (bs t)) := blk_at HZ.out.2.2.1 2 rfl
    have s3 : Z.cell? ⟨S, 3, none⟩ = some (.int .i64 j.sv) := blk_at HZ.out.2.2.1 3 rfl
    have r0 : Z.cell? ⟨R, 0, none⟩ = some (.int .i64 0) := blk_at HZ.out.2.1 0 rfl
    have r1 : Z.cell? ⟨R, 1, none⟩ = some (.string ⟨#[]⟩) := blk_at HZ.out.2.1 1 rfl
    have r2 : Z.cell? ⟨R, 2, none⟩ = some (.string ⟨#[]⟩) := blk_at HZ.out.2.1 2 rfl
    have r3 : Z.cell? ⟨R, 3, none⟩ = some (.int .i64 0) := blk_at HZ.out.2.1 3 rfl
    have rf0 : Z.frozen? ⟨R, 0, none⟩ = false := blk_free HZ.out.2.1 0
    have rf1 : Z.frozen? ⟨R, 1, none⟩ = false := blk_free HZ.out.2.1 1
    have rf2 : Z.frozen? ⟨R, 2, none⟩ = false := blk_free HZ.out.2.1 2
    have rf3 : Z.frozen? ⟨R, 3, none⟩ = false := blk_free HZ.out.2.1 3
    go_region
    all_goals
      go_wp2
      rw [← hY]
      have j0 : Y.cell? ⟨R, 0, none⟩ = some (.int .i64 4) := blk_at HY.out.1 0 rfl
      have j1 : Y.cell? ⟨R, 1, none⟩ = some (.string (bs kk)) := blk_at HY.out.1 1 rfl
      have j2 : Y.cell? ⟨R, 2, none⟩ = some (.string (bs t)) := blk_at HY.out.1 2 rfl
      have j3 : Y.cell? ⟨R, 3, none⟩ = some (.int .i64 j.sv) := blk_at HY.out.1 3 rfl
      exact bodyPost_ret (v := .tuple #[.int .i64 j.at', .agg #[.int .i64 4, .string (bs kk), .string (bs t), .int .i64 j.sv], .bool true]) (by simp [results, Tryz.results27, go_sem, j0, j1, j2, j3]) rfl ⟨by rw [hn, ← Hk.out, ← Ht.out]; rfl, HY.out.2⟩
set_option maxRecDepth 100000 in
set_option maxHeartbeats 4000000 in
theorem jnT7 (w X : World) (b R G S : Nat) (j : Jb) (K : Jk) (kk : List UInt8) (HI : Hid (CmIn w X b R G S j K kk)) (_Hk : Hid (kk = cKey j.k)) (hp : j.ph = 7) (_O : Hid j.Ok) (fv1 fv2 fv4 fv7 fv8 fv9 fv10 fv11 fv12 fv13 fv14 fv15 fv16 fv17 fv18 fv19 fv20 fv21 fv22 fv23 fv24 fv25 fv26 fv27 fv28 fv29 fv30 fv31 fv32 fv33 fv34 fv35 fv36 fv37 fv38 fv39 fv40 fv41 fv42 fv43 fv44 fv45 fv46 fv47 fv48 fv49 fv50 fv51 fv52 fv53 fv54 fv55 fv56 fv57 fv58 fv59 fv60 fv61 fv62 fv63 fv64 fv65 fv66 fv67 fv68 fv69 fv70 fv71 fv72 fv73 fv74 fv75 fv76 fv77 fv78 fv79 fv80 fv81 fv82 fv83 fv84 fv85 fv86 fv87 fv88 fv89 fv90 fv91 fv92 fv93 fv94 fv95 fv96 fv97 fv98 fv99 fv100 fv101 fv102 fv103 fv104 fv105 fv106 fv107 fv108 fv109 fv110 fv111 fv112 fv113 fv114 fv115 fv116 fv117 fv118 fv119 fv120 fv121 fv122 fv123 fv124 fv125 fv126 fv127 fv128 fv129 fv130 : Value) :
    Code.wp Tryz.prog nT3 (bodyPost Tryz.prog Tryz.f27 (CNPost w j.next)) ⟨#[.pointer (some ⟨b, 0, none⟩), fv1, fv2, .pointer (some ⟨R, 0, none⟩), fv4, .pointer (some ⟨G, 0, none⟩), .pointer (some ⟨S, 0, none⟩), fv7, fv8, fv9, fv10, fv11, fv12, fv13, fv14, fv15, fv16, fv17, fv18, fv19, fv20, fv21, fv22, fv23, fv24, fv25, fv26, fv27, fv28, fv29, fv30, fv31, fv32, fv33, fv34, fv35, fv36, fv37, fv38, fv39, fv40, fv41, fv42, fv43, fv44, fv45, fv46, fv47, fv48, fv49, fv50, fv51, fv52, fv53, fv54, fv55, fv56, fv57, fv58, fv59, fv60, fv61, fv62, fv63, fv64, fv65, fv66, fv67, fv68, fv69, fv70, fv71, fv72, fv73, fv74, fv75, fv76, fv77, fv78, fv79, fv80, fv81, fv82, fv83, fv84, fv85, fv86, fv87, fv88, fv89, fv90, fv91, fv92, fv93, fv94, fv95, fv96, fv97, fv98, fv99, fv100, fv101, fv102, fv103, fv104, fv105, fv106, fv107, fv108, fv109, fv110, fv111, fv112, fv113, fv114, fv115, fv116, fv117, fv118, fv119, fv120, fv121, fv122, fv123, fv124, fv125, fv126, fv127, fv128, fv129, fv130], []⟩ X := by
  conv => arg 2; whnf
  dsimp only
  have HJ : Hid (JdAt X b j K) := HI.out.jd
  have q6 : X.cell? ⟨b, 6, none⟩ = some (.int .i64 8) := by
    have e : X.cell? ⟨b, 6, none⟩ = some (.int .i64 ((j.ph : Int) + 1)) := blk_at HJ.out 6 rfl
    rw [hp] at e
    exact e
  have hRb : R ≠ b := Ne.symm HI.out.br
  have hSb : S ≠ b := Ne.symm HI.out.bS
  have hRG : R ≠ G := HI.out.rg
  have hRS : R ≠ S := HI.out.rs
  have hGR : G ≠ R := Ne.symm hRG
  have hSR : S ≠ R := Ne.symm hRS
  have hbR : b ≠ R := HI.out.br
  have hbS : b ≠ S := HI.out.bS
  have hn : j.next = (0, ⟨0, [], [], 0⟩, false) := by unfold Jb.next; rw [if_neg (by omega), if_neg (by omega), if_neg (by omega), if_neg (by omega), if_neg (by omega), if_neg (by omega), if_neg (by omega)]
  clear hp
  obtain ⟨Y, hY⟩ : ∃ Y, Y = ((((X.setCell ⟨R, 0, none⟩ (.int .i64 0)).setCell ⟨R, 1, none⟩ (.string ⟨#[]⟩)).setCell ⟨R, 2, none⟩ (.string ⟨#[]⟩)).setCell ⟨R, 3, none⟩ (.int .i64 0)) := ⟨_, rfl⟩
  have HY : Hid (CdAt Y R (0) ([]) ([]) (0) ∧ Kept Nil w Y) := by rw [hY]; exact ⟨CdAt.all HI.out.cr _ _ _ _, ((((HI.out.kp.setNew (p := ⟨R, 0, none⟩) HI.out.wr _).setNew (p := ⟨R, 1, none⟩) HI.out.wr _).setNew (p := ⟨R, 2, none⟩) HI.out.wr _).setNew (p := ⟨R, 3, none⟩) HI.out.wr _)⟩
  have r0 : X.cell? ⟨R, 0, none⟩ = some (.int .i64 0) := blk_at HI.out.cr 0 rfl
  have r1 : X.cell? ⟨R, 1, none⟩ = some (.string ⟨#[]⟩) := blk_at HI.out.cr 1 rfl
  have r2 : X.cell? ⟨R, 2, none⟩ = some (.string ⟨#[]⟩) := blk_at HI.out.cr 2 rfl
  have r3 : X.cell? ⟨R, 3, none⟩ = some (.int .i64 0) := blk_at HI.out.cr 3 rfl
  have rf0 : X.frozen? ⟨R, 0, none⟩ = false := blk_free HI.out.cr 0
  have rf1 : X.frozen? ⟨R, 1, none⟩ = false := blk_free HI.out.cr 1
  have rf2 : X.frozen? ⟨R, 2, none⟩ = false := blk_free HI.out.cr 2
  have rf3 : X.frozen? ⟨R, 3, none⟩ = false := blk_free HI.out.cr 3
  go_wp2
  rw [← hY]
  have j0 : Y.cell? ⟨R, 0, none⟩ = some (.int .i64 0) := blk_at HY.out.1 0 rfl
  have j1 : Y.cell? ⟨R, 1, none⟩ = some (.string ⟨#[]⟩) := blk_at HY.out.1 1 rfl
  have j2 : Y.cell? ⟨R, 2, none⟩ = some (.string ⟨#[]⟩) := blk_at HY.out.1 2 rfl
  have j3 : Y.cell? ⟨R, 3, none⟩ = some (.int .i64 0) := blk_at HY.out.1 3 rfl
  exact bodyPost_ret (v := .tuple #[.int .i64 0, .agg #[.int .i64 0, .string ⟨#[]⟩, .string ⟨#[]⟩, .int .i64 0], .bool false]) (by simp [results, Tryz.results27, go_sem, j0, j1, j2, j3]) rfl ⟨by rw [hn]; rfl, HY.out.2⟩
end Go.Proofs.YtflnjlbafchnaaaGreatDoor
