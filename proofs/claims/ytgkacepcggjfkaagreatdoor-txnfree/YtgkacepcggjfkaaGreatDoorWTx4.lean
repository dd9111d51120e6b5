/-
  Transactions: get, Number (the program).
-/
import Derived.Test.YtgkacepcggjfkaaGreatDoorWTx3
import Derived.Test.YtgkacepcggjfkaaGreatDoorWKv12
import Derived.Deep.RegionHeld3
namespace Go.Proofs.YtgkacepcggjfkaaGreatDoor
open Go.RowKit

def GtPost (w : World) (r : Rr) (e : Ending) (w' : World) : Prop := ∃ ko kc, e = .returned (rrV r ko kc) ∧ Kept Nil w w'
set_option maxRecDepth 100000 in
set_option maxHeartbeats 2000000 in
theorem get_any (B c : Nat) (ao : Option Addr) (ps : List Pr) (key : List UInt8) (w : World) (h : PairRow B w ao ps) (hn : ao = none → ps = [] ∧ c = 0) (hl : (ps.length : Int) ≤ 3518437208780) (hk : key.length ≤ maxLen) :
    Calls Tryz.prog 74 #[.slice ao ps.length c, .string (bs key)] w (GtPost w (apR 2 key [] 0 ps)) := by
  obtain ⟨r, HR⟩ : ∃ r, Hid (r = apR 2 key [] 0 ps) := ⟨_, rfl⟩
  rw [← HR.out]
  obtain ⟨W, hW⟩ : ∃ W, W = w.alloc (.cells #[.int .i64 0, .string ⟨#[]⟩, .int .i64 0, .slice none 0 0] 50) := ⟨_, rfl⟩
  obtain ⟨A, HAe⟩ : ∃ A, Hid (A = w.heap.size) := ⟨_, rfl⟩
  have HAw : Hid (w.heap.size ≤ A) := by show _ ≤ _; rw [HAe.out]; exact Nat.le_refl _
  have KW : Hid (Kept Nil w W) := by rw [hW]; exact (Kept.refl _ _).alloc _
  have HAW : Hid (W.heap[A]? = some (.cells #[.int .i64 0, .string ⟨#[]⟩, .int .i64 0, .slice none 0 0] 50 (0, 0))) := by rw [hW, HAe.out]; exact blk_new _ _
  have HP : Hid (PairRow B w ao ps) := h
  have HNn : Hid (ao = none → ps = [] ∧ c = 0) := hn
  have HKk : Hid (key.length ≤ maxLen) := hk
  have GC := getCommand_any key W
  clear h hn hk
  go_enter Tryz.func74, Tryz.ntmps74
  go_wp2_with fail
  rw [← hW, ← HAe.out]
  clear hW
  go_fit GC
  clear GC
  rintro _ w1 ⟨rfl, k1⟩
  have K1 : Hid (Kept Nil w w1) := KW.out.trans k1
  have HA1 : Hid (w1.heap[A]? = some (.cells #[.int .i64 0, .string ⟨#[]⟩, .int .i64 0, .slice none 0 0] 50 (0, 0))) := k1.block _ _ HAW.out (fun x => x.elim)
  clear k1
  have AP := apply_any B c ao ps key [] 2 0 w1 (HP.out.nil K1.out) HNn.out hl HKk.out (Nat.zero_le _)
  rw [← HR.out] at AP
  go_wp2_with fail
  go_fit AP
  clear AP
  rintro _ w2 ⟨a2, c2, ko, kc, rfl, _, _, k2⟩
  unfold rrV
  have K2 : Hid (Kept Nil w w2) := K1.out.trans k2
  have BR : w2.heap[A]? = some (.cells #[.int .i64 0, .string ⟨#[]⟩, .int .i64 0, .slice none 0 0] 50 (0, 0)) := k2.block _ _ HA1.out (fun x => x.elim)
  clear k2
  have r0 : w2.cell? ⟨A, 0, none⟩ = some (.int .i64 0) := blk_at BR 0 rfl
  have r1 : w2.cell? ⟨A, 1, none⟩ = some (.string ⟨#[]⟩) := blk_at BR 1 rfl
  have r2 : w2.cell? ⟨A, 2, none⟩ = some (.int .i64 0) := blk_at BR 2 rfl
  have r3 : w2.cell? ⟨A, 3, none⟩ = some (.slice none 0 0) := blk_at BR 3 rfl
  have z0 : w2.frozen? ⟨A, 0, none⟩ = false := blk_free BR 0
  have z1 : w2.frozen? ⟨A, 1, none⟩ = false := blk_free BR 1
  have z2 : w2.frozen? ⟨A, 2, none⟩ = false := blk_free BR 2
  have z3 : w2.frozen? ⟨A, 3, none⟩ = false := blk_free BR 3
  have hlt : A < w2.heap.size := lt_of_block BR
  obtain ⟨V, hV⟩ : ∃ V, V = (((w2.setCell ⟨A, 0, none⟩ (.int .i64 r.kd)).setCell ⟨A, 1, none⟩ (.string (bs r.v))).setCell ⟨A, 2, none⟩ (.int .i64 r.n)).setCell ⟨A, 3, none⟩ (.slice ko r.ks.length kc) := ⟨_, rfl⟩
  have HV : Hid (V.heap[A]? = some (.cells #[.int .i64 r.kd, .string (bs r.v), .int .i64 r.n, .slice ko r.ks.length kc] 50 (0, 0)) ∧ Kept Nil w V) := by
    rw [hV]
    exact ⟨blk_set (blk_set (blk_set (blk_set BR 0 _) 1 _) 2 _) 3 _, (((K2.out.setNew (p := ⟨A, 0, none⟩) HAw.out _).setNew (p := ⟨A, 1, none⟩) HAw.out _).setNew (p := ⟨A, 2, none⟩) HAw.out _).setNew (p := ⟨A, 3, none⟩) HAw.out _⟩
  clear BR
  go_wp2
  rw [← hV]
  clear hV r0 r1 r2 r3 z0 z1 z2 z3
  have j0 := blk_at (blk_past HV.out.1 (.cells #[.int .i64 r.kd, .string (bs r.v), .int .i64 r.n, .slice ko r.ks.length kc] 50)) 0 rfl
  have j1 := blk_at (blk_past HV.out.1 (.cells #[.int .i64 r.kd, .string (bs r.v), .int .i64 r.n, .slice ko r.ks.length kc] 50)) 1 rfl
  have j2 := blk_at (blk_past HV.out.1 (.cells #[.int .i64 r.kd, .string (bs r.v), .int .i64 r.n, .slice ko r.ks.length kc] 50)) 2 rfl
  have j3 := blk_at (blk_past HV.out.1 (.cells #[.int .i64 r.kd, .string (bs r.v), .int .i64 r.n, .slice ko r.ks.length kc] 50)) 3 rfl
  exact bodyPost_ret (v := .agg #[.int .i64 r.kd, .string (bs r.v), .int .i64 r.n, .slice ko r.ks.length kc]) (by simp [results, Tryz.results74, go_sem, j0, j1, j2, j3]) rfl ⟨ko, kc, rfl, HV.out.2.alloc _⟩

/-- What a map says of a key; a key's number in it. -/
def tells (ps : List Pr) (key : List UInt8) : List UInt8 := saidR (apR 2 key [] 0 ps)
def wDone : List UInt8 := [100, 111, 110, 101]
def numOf (ps : List Pr) (key : List UInt8) : Nat := (hdOf (tells ps (kKey key))).settled (decide (tells ps (tKey (hdOf (tells ps (kKey key))).b) = wDone))
theorem tells_len {ps : List Pr} {key : List UInt8} : (tells ps key).length ≤ 64 := by
  unfold tells saidR apR
  by_cases h : (pairsOk ps && isCmd 2 key [] 0) = true
  · rw [if_pos h]
    rw [Bool.and_eq_true] at h
    have := (spot_ok h.1 key).2.2.2
    unfold doR tellRr
    simp only [show ¬ (2 : Int) = 1 by decide, if_false, if_true]
    by_cases hz : spotN key ps = 0
    · simp [hz]
    · simp [hz, this]
  · rw [if_neg h]
    simp
set_option maxRecDepth 100000 in
set_option maxHeartbeats 4000000 in
theorem number_any (B c : Nat) (ao : Option Addr) (ps : List Pr) (key : List UInt8) (w : World) (hL : LD w) (h : PairRow B w ao ps) (hn : ao = none → ps = [] ∧ c = 0) (hl : (ps.length : Int) ≤ 3518437208780) (hk : key.length ≤ 140737488355328) :
    Calls Tryz.prog 23 #[.slice ao ps.length c, .string (bs key)] w fun e w' => e = .returned (.int .i64 (numOf ps key)) ∧ Kept Nil w w' := by
  obtain ⟨z, HZ⟩ : ∃ z, Hid (z = numOf ps key) := ⟨_, rfl⟩
  rw [← HZ.out]
  have HL : Hid (LD w) := hL
  have GT : ∀ (k : List UInt8) (X : World), Kept Nil w X → k.length ≤ maxLen → Calls Tryz.prog 74 #[.slice ao ps.length c, .string (bs k)] X (GtPost X (apR 2 k [] 0 ps)) := fun k X kX hkl => get_any B c ao ps k X (h.nil kX) hn hl hkl
  have AK := amountKey_any key hk w
  have HK1 : Hid ((kKey key).length ≤ maxLen) := by show _ ≤ _; unfold kKey maxLen; simp; omega
  clear hL h hn hl hk
  go_enter Tryz.func23, Tryz.ntmps23
  go_wp2_with fail
  go_fit AK
  rintro _ wq ⟨rfl, hwq⟩
  rw [hwq]
  clear hwq wq AK
  have G1 := GT (kKey key) w (Kept.refl _ _) HK1.out
  go_wp2_with fail
  go_fit G1
  rintro _ w1 ⟨ko, kc, rfl, k1⟩
  have K1 : Hid (Kept Nil w w1) := k1
  clear k1 G1
  have SD := said_any (apR 2 (kKey key) [] 0 ps) ko kc w1
  go_wp2_with fail
  go_fit SD
  rintro _ w2 ⟨rfl, k2⟩
  have K2 : Hid (Kept Nil w w2) := K1.out.trans k2
  clear k2 SD K1
  have RD := read_any (tells ps (kKey key)) (by have := tells_len (ps := ps) (key := kKey key); omega) w2 (HL.out.kept K2.out)
  obtain ⟨g, HG⟩ : ∃ g, Hid (g = hdOf (tells ps (kKey key))) := ⟨_, rfl⟩
  rw [← HG.out] at RD
  have HO : Hid (g.Ok) := by show Hd.Ok _; rw [HG.out]; exact hdOf_ok _
  go_wp2_with fail
  go_fit RD
  rintro _ w3 ⟨rfl, k3⟩
  have K3 : Hid (Kept Nil w w3) := K2.out.trans k3
  clear k3 RD K2
  obtain ⟨W, hW⟩ : ∃ W, W = w3.alloc (.cells #[.int .i64 g.n, .int .i64 g.b, .int .i64 g.t] 104) := ⟨_, rfl⟩
  obtain ⟨A, HAe⟩ : ∃ A, Hid (A = w3.heap.size) := ⟨_, rfl⟩
  have KW : Hid (Kept Nil w W) := by rw [hW]; exact K3.out.alloc _
  have HAW : Hid (W.heap[A]? = some (.cells #[.int .i64 g.n, .int .i64 g.b, .int .i64 g.t] 104 (0, 0))) := by rw [hW, HAe.out]; exact blk_new _ _
  have SS : ∀ X, Kept Nil W X → X.cell? ⟨A, 0, none⟩ = some (.int .i64 g.n) ∧ X.cell? ⟨A, 1, none⟩ = some (.int .i64 g.b) ∧ X.cell? ⟨A, 2, none⟩ = some (.int .i64 g.t) := fun X kX =>
    ⟨blk_at (kX.block _ _ HAW.out (fun x => x.elim)) 0 rfl, blk_at (kX.block _ _ HAW.out (fun x => x.elim)) 1 rfl, blk_at (kX.block _ _ HAW.out (fun x => x.elim)) 2 rfl⟩
  have RK := recordKey_any g.b (by have := HO.out.b; omega) W.drew (HL.out.kept KW.out.drew)
  obtain ⟨r2, HR2⟩ : ∃ r2, Hid (r2 = apR 2 (tKey g.b) [] 0 ps) := ⟨_, rfl⟩
  have G2 : ∀ X, Kept Nil W X → Calls Tryz.prog 74 #[.slice ao ps.length c, .string (bs (tKey g.b))] X (GtPost X r2) := fun X kX => by
    rw [HR2.out]
    refine GT _ X (KW.out.trans kX) ?_
    have := digits_len9 (n := g.b) (by have := HO.out.b; omega)
    unfold tKey maxLen
    simp
    omega
  obtain ⟨d, HD⟩ : ∃ d : Bool, Hid (d = decide (tells ps (tKey g.b) = wDone)) := ⟨_, rfl⟩
  have HE : ((bs (saidR r2)).toList == ([100, 111, 110, 101] : List UInt8)) = d := by
    rw [bs_toList, HD.out, HR2.out]
    rw [Bool.eq_iff_iff]
    simp
    rfl
  have HZ2 : Hid (z = g.settled d) := by
    show _ = _
    rw [HZ.out, HD.out, HG.out]
    rfl
  have s0 := SS W (Kept.refl _ _)
  go_wp2_with fail
  rw [← hW, ← HAe.out]
  clear hW
  go_region_held3 (fun w' => w'.cell? ⟨A, 0, none⟩ = some (.int .i64 g.n) ∧ w'.cell? ⟨A, 1, none⟩ = some (.int .i64 g.b) ∧ w'.cell? ⟨A, 2, none⟩ = some (.int .i64 g.t)) (first | assumption | go_keep) (first | (go_at_call 49; go_must (go_fit RK; rintro e wa ⟨rfl, ka⟩; have Ka : Hid (Kept Nil W wa) := ((Kept.refl _ _).drew).trans ka; have sa := SS wa Ka.out; have Ga := G2 wa Ka.out)) | (go_at_call 74; go_must (go_fit Ga; rintro e wb ⟨ko2, kc2, rfl, kb⟩; have Kb : Hid (Kept Nil W wb) := Ka.out.trans kb; have sb := SS wb Kb.out; have Sb := said_any r2 ko2 kc2 wb)) | (go_at_call 73; go_must (go_fit Sb; rintro e wc ⟨rfl, kc⟩; have Kc : Hid (Kept Nil W wc) := Kb.out.trans kc; have sc := SS wc Kc.out; have Tc := settled_any g d wc)) | (go_at_call 54; go_must (go_fit Tc; rintro e we ⟨rfl, ke⟩; have Ke : Hid (Kept Nil W we) := Kc.out.trans ke; have se := SS we Ke.out)))
  go_wp2
  go_ret
  exact ⟨by rw [HZ2.out]; rfl, KW.out.trans Ke.out⟩
end Go.Proofs.YtgkacepcggjfkaaGreatDoor
