/-
  Joined: WCxM.
-/
import Derived.Test.YtflnjlbafchnaaaGreatDoorQ51
import Derived.Deep.DeepCutAuto
import Derived.Deep.DeepFit
/-
  CellExact: the walk.
-/
namespace Go.Proofs.YtflnjlbafchnaaaGreatDoor
open Go.RowKit

set_option maxRecDepth 100000 in
set_option maxHeartbeats 8000000 in
theorem cellExact_any (w : World) (gs at' kd m tg : Int) (k v : List UInt8) (ro : Option Addr) (rc : Nat) (rs : List Re) (hL0 : LW w) (hw : 14 ≤ w.heap.size) (hk : k.length ≤ 140737488355328) (hv : v.length ≤ 140737488355328) (hR0 : ReRow w.heap.size w ro rs) (hlen : (rs.length : Int) ≤ 4611686018427387904) :
    Calls Tryz.prog 6 #[.int .i64 gs, .int .i64 at', .agg #[.int .i64 kd, .string (bs k), .string (bs v), .int .i64 m, .int .i64 tg], .slice ro rs.length rc] w fun e w' => e = .returned (.bool true) ∧ Kept Nil w w' := by
  have HL : Hid (∀ Y, Kept Nil w Y → LW Y ∧ 14 ≤ Y.heap.size) := fun Y kY => ⟨hL0.kept kY, Nat.le_trans hw kY.size⟩
  have HR : Hid (ReRow w.heap.size w ro rs) := hR0
  obtain ⟨n, Hn⟩ : ∃ n, Hid (n = rs.length) := ⟨_, rfl⟩
  have HN : Hid ((n : Int) ≤ 4611686018427387904) := by show _ ≤ _; rw [Hn.out]; exact hlen
  rw [← Hn.out]
  clear hL0 hw hR0 hlen
  obtain ⟨W, hW⟩ : ∃ W, W = w.alloc (.cells #[.int .i64 kd, .string (bs k), .string (bs v), .int .i64 m, .int .i64 tg] 66) := ⟨_, rfl⟩
  obtain ⟨A, HAe⟩ : ∃ A, Hid (A = w.heap.size) := ⟨_, rfl⟩
  have HA : Hid (W.heap[A]? = some (.cells #[.int .i64 kd, .string (bs k), .string (bs v), .int .i64 m, .int .i64 tg] 66 (0, 0))) := by rw [hW, HAe.out]; exact blk_new _ _
  have KW : Hid (Kept Nil w W) := by rw [hW]; exact (Kept.refl _ _).alloc _
  have NW : Calls Tryz.prog 24 #[.int .i64 1, .int .i64 1, .agg #[.int .i64 1, .string ⟨#[97]⟩, .string ⟨#[118]⟩, .int .i64 0, .int .i64 0]] W (CNewPost W (Jb.new 1 [97] [118] 0 0 1)) := cnew_any 1 1 1 [97] [118] 0 0 W (by decide) (by decide) (by decide) (by decide) (by decide) (by decide) (by decide) (by decide)
  have O0 : Hid ((Jb.new 1 [97] [118] 0 0 1).Ok) := Jb.Ok.new (by decide) (by decide) (by decide) (by decide) (by decide) (by decide) (by decide) (by decide)
  go_enter Tryz.func6, Tryz.ntmps6
  go_upto_region 1 with fail
  rw [← hW, ← HAe.out]
  clear hW HAe
  go_wp2_with fail
  go_fit NW
  rintro _ w1 ⟨b1, rfl, _, hj1, k1⟩
  have HJ1 : Hid (JbAt w1 b1 (Jb.new 1 [97] [118] 0 0 1) ⟨⟨none, 0, none, 0⟩, ⟨rfl, rfl⟩, ⟨rfl, rfl⟩⟩) := hj1
  have K1 : Hid (Kept Nil W w1) := k1
  clear hj1 k1 NW
  have NX : Calls Tryz.prog 25 #[.pointer (some ⟨b1, 0, none⟩)] w1 fun e w' => e = .returned (.tuple #[.int .i64 1, .agg #[.int .i64 2, .string ⟨#[99, 97]⟩, .string ⟨#[]⟩, .int .i64 0], .bool true]) ∧ Kept Nil w1 w' := cnext_any w1 b1 _ _ HJ1.out O0.out (HL.out w1 (KW.out.trans K1.out)).1
  go_wp2_with fail
  go_fit NX
  rintro _ w2 ⟨rfl, k2⟩
  obtain ⟨W2, hW2⟩ : ∃ Y, Y = w2.alloc (.cells #[.int .i64 2, .string ⟨#[99, 97]⟩, .string ⟨#[]⟩, .int .i64 0] 31) := ⟨_, rfl⟩
  obtain ⟨A2, HA2e⟩ : ∃ A, Hid (A = w2.heap.size) := ⟨_, rfl⟩
  have HA2 : Hid (W2.heap[A2]? = some (.cells #[.int .i64 2, .string ⟨#[99, 97]⟩, .string ⟨#[]⟩, .int .i64 0] 31 (0, 0))) := by rw [hW2, HA2e.out]; exact blk_new _ _
  have KW2 : Hid (Kept Nil w2 W2) := by rw [hW2]; exact (Kept.refl _ _).alloc _
  have K2W : Hid (Kept Nil w1 W2) := Kept.trans k2 KW2.out
  go_upto_region 5 with fail
  rw [← hW2, ← HA2e.out]
  clear hW2 HA2e k2 KW2 NX HJ1
  have a0 : W2.cell? ⟨A2, 0, none⟩ = some (.int .i64 2) := blk_at HA2.out 0 rfl
  have a1 : W2.cell? ⟨A2, 1, none⟩ = some (.string ⟨#[99, 97]⟩) := blk_at HA2.out 1 rfl
  have a2 : W2.cell? ⟨A2, 2, none⟩ = some (.string ⟨#[]⟩) := blk_at HA2.out 2 rfl
  have a3 : W2.cell? ⟨A2, 3, none⟩ = some (.int .i64 0) := blk_at HA2.out 3 rfl
  go_upto_region 7 with fail
  clear a0 a1 a2 a3 HA2
  have KX : Hid (Kept Nil W W2) := K1.out.trans K2W.out
  have HAX : Hid (W2.heap[A]? = some (.cells #[.int .i64 kd, .string (bs k), .string (bs v), .int .i64 m, .int .i64 tg] 66 (0, 0))) := KX.out.block _ _ HA.out (fun x => x)
  have KWX : Hid (Kept Nil w W2) := KW.out.trans KX.out
  clear K1 K2W KX HA KW
  have x0 : W2.cell? ⟨A, 0, none⟩ = some (.int .i64 kd) := blk_at HAX.out 0 rfl
  have x1 : W2.cell? ⟨A, 1, none⟩ = some (.string (bs k)) := blk_at HAX.out 1 rfl
  have x2 : W2.cell? ⟨A, 2, none⟩ = some (.string (bs v)) := blk_at HAX.out 2 rfl
  have x3 : W2.cell? ⟨A, 3, none⟩ = some (.int .i64 m) := blk_at HAX.out 3 rfl
  have x4 : W2.cell? ⟨A, 4, none⟩ = some (.int .i64 tg) := blk_at HAX.out 4 rfl
  by_cases hb : gs < 1 ∨ 4 < gs ∨ at' < 1 ∨ gs < at'
  · have CN := cnew_bound gs at' kd m tg k v W2 hb
    have JN := fun (Y : World) => jnew_bound gs at' kd m tg k v Y hb
    clear hb
    go_wp2_with fail
    go_fit CN
    rintro _ w3 ⟨rfl, k3⟩
    have K3 : Hid (Kept Nil W2 w3) := k3
    clear k3 CN x0 x1 x2 x3 x4
    have x0 : w3.cell? ⟨A, 0, none⟩ = some (.int .i64 kd) := blk_at (K3.out.block _ _ HAX.out (fun x => x)) 0 rfl
    have x1 : w3.cell? ⟨A, 1, none⟩ = some (.string (bs k)) := blk_at (K3.out.block _ _ HAX.out (fun x => x)) 1 rfl
    have x2 : w3.cell? ⟨A, 2, none⟩ = some (.string (bs v)) := blk_at (K3.out.block _ _ HAX.out (fun x => x)) 2 rfl
    have x3 : w3.cell? ⟨A, 3, none⟩ = some (.int .i64 m) := blk_at (K3.out.block _ _ HAX.out (fun x => x)) 3 rfl
    have x4 : w3.cell? ⟨A, 4, none⟩ = some (.int .i64 tg) := blk_at (K3.out.block _ _ HAX.out (fun x => x)) 4 rfl
    have JN3 := JN w3
    go_wp2_with fail
    go_fit JN3
    rintro _ w4 ⟨rfl, k4⟩
    have K4 : Hid (Kept Nil w w4) := (KWX.out.trans K3.out).trans k4
    clear k4 JN JN3 x0 x1 x2 x3 x4
    go_wp2
    go_ret
    exact ⟨rfl, K4.out⟩
  · by_cases hbad : isCmd kd k v m = false ∨ kd = 6 ∨ 15 < k.length ∨ 32 < v.length ∨ tg < 0 ∨ gs < tg ∨ (0 < tg ∧ kd ≠ 2)
    · have CN := cnew_bad gs at' kd m tg k v W2 (by omega) (by omega) (by unfold maxLen; omega) (by unfold maxLen; omega) hbad
      have JN := fun (Y : World) => jnew_bad gs at' kd m tg k v Y (by omega) (by omega) (by omega) (by omega) hbad
      clear hb hbad
      go_wp2_with fail
      go_fit CN
      rintro _ w3 ⟨rfl, k3⟩
      have K3 : Hid (Kept Nil W2 w3) := k3
      clear k3 CN x0 x1 x2 x3 x4
      have x0 : w3.cell? ⟨A, 0, none⟩ = some (.int .i64 kd) := blk_at (K3.out.block _ _ HAX.out (fun x => x)) 0 rfl
      have x1 : w3.cell? ⟨A, 1, none⟩ = some (.string (bs k)) := blk_at (K3.out.block _ _ HAX.out (fun x => x)) 1 rfl
      have x2 : w3.cell? ⟨A, 2, none⟩ = some (.string (bs v)) := blk_at (K3.out.block _ _ HAX.out (fun x => x)) 2 rfl
      have x3 : w3.cell? ⟨A, 3, none⟩ = some (.int .i64 m) := blk_at (K3.out.block _ _ HAX.out (fun x => x)) 3 rfl
      have x4 : w3.cell? ⟨A, 4, none⟩ = some (.int .i64 tg) := blk_at (K3.out.block _ _ HAX.out (fun x => x)) 4 rfl
      have JN3 := JN w3
      go_wp2_with fail
      go_fit JN3
      rintro _ w4 ⟨rfl, k4⟩
      have K4 : Hid (Kept Nil w w4) := (KWX.out.trans K3.out).trans k4
      clear k4 JN JN3 x0 x1 x2 x3 x4
      go_wp2
      go_ret
      exact ⟨rfl, K4.out⟩
    · obtain ⟨g, rfl⟩ := Int.eq_ofNat_of_zero_le (show 0 ≤ gs by omega)
      obtain ⟨t, rfl⟩ := Int.eq_ofNat_of_zero_le (show 0 ≤ at' by omega)
      obtain ⟨q, rfl⟩ := Int.eq_ofNat_of_zero_le (show 0 ≤ tg by omega)
      have hic : isCmd kd k v m = true := by cases e : isCmd kd k v m; exact absurd (.inl e) hbad; rfl
      have h6 : kd ≠ 6 := fun e => hbad (.inr (.inl e))
      have hk15 : k.length ≤ 15 := by omega
      have hv32 : v.length ≤ 32 := by omega
      have hqg : q ≤ g := by omega
      have hq2 : 0 < q → kd = 2 := fun h => by
        by_cases e : kd = 2
        · exact e
        · exact absurd (.inr (.inr (.inr (.inr (.inr (.inr ⟨by omega, e⟩)))))) hbad
      have CN := cnew_any g t kd k v m q W2 (by omega) (by omega) hic h6 hk15 hv32 hqg hq2
      have JN := fun (Y : World) => jnew_ok g t kd m q k v Y (by omega) (by omega) hic h6 hk15 hv32 hqg hq2
      have hkd := isCmd_kind hic
      have hkey : 1 ≤ k.length := isCmd_keyX hic h6
      have hm2 := isCmd_numX hic
      have HO : Hid ((Jb.new kd k v m q t).Ok ∧ ∀ c : Ce, c.Ok → CmOk (Jb.new kd k v m q t).kd (Jb.new kd k v m q t).k (Jb.new kd k v m q t).v (Jb.new kd k v m q t).m c.v c.n) :=
        ⟨Jb.Ok.new (by omega) hkey hk15 hv32 hm2 (by omega) (by omega) (by omega), fun c hc => ⟨hic, by show 1 ≤ kd ∧ kd ≤ 5; omega, hkey, by show k.length ≤ 16; omega, hv32, hc.v, hc.n, hc.vn⟩⟩
      clear hb hbad hic h6 hk15 hv32 hqg hq2 hkd hkey hm2 hk hv
      go_wp2_with fail
      go_fit CN
      rintro _ w3 ⟨ba, rfl, hba, hja, k3⟩
      have HJA : Hid (JbAt w3 ba (Jb.new kd k v m q t) ⟨⟨none, 0, none, 0⟩, ⟨rfl, rfl⟩, ⟨rfl, rfl⟩⟩) := hja
      have K3 : Hid (Kept Nil W2 w3) := k3
      have HBA : Hid (w.heap.size ≤ ba) := Nat.le_trans KWX.out.size hba
      clear hja k3 CN hba x0 x1 x2 x3 x4
      have x0 : w3.cell? ⟨A, 0, none⟩ = some (.int .i64 kd) := blk_at (K3.out.block _ _ HAX.out (fun x => x)) 0 rfl
      have x1 : w3.cell? ⟨A, 1, none⟩ = some (.string (bs k)) := blk_at (K3.out.block _ _ HAX.out (fun x => x)) 1 rfl
      have x2 : w3.cell? ⟨A, 2, none⟩ = some (.string (bs v)) := blk_at (K3.out.block _ _ HAX.out (fun x => x)) 2 rfl
      have x3 : w3.cell? ⟨A, 3, none⟩ = some (.int .i64 m) := blk_at (K3.out.block _ _ HAX.out (fun x => x)) 3 rfl
      have x4 : w3.cell? ⟨A, 4, none⟩ = some (.int .i64 (q : Int)) := blk_at (K3.out.block _ _ HAX.out (fun x => x)) 4 rfl
      have JN3 := JN w3
      go_wp2_with fail
      go_fit JN3
      rintro _ w4 ⟨bb, rfl, hbb, hjb, k4⟩
      have HJB : Hid (JdAt w4 bb (Jb.new kd k v m q t) ⟨none, 0, none, 0⟩) := hjb
      have HJA4 : Hid (JbAt w4 ba (Jb.new kd k v m q t) ⟨⟨none, 0, none, 0⟩, ⟨rfl, rfl⟩, ⟨rfl, rfl⟩⟩) := HJA.out.kept k4
      have HK4 : Hid (Kept Nil w w4) := (KWX.out.trans K3.out).trans k4
      have HBB : Hid (w.heap.size ≤ ba ∧ w.heap.size ≤ bb ∧ ba ≠ bb) := ⟨HBA.out, Nat.le_trans (KWX.out.trans K3.out).size hbb, by have := lt_of_block HJA.out; omega⟩
      clear hjb k4 JN JN3 x0 x1 x2 x3 x4 HJA HBA K3 KWX HAX hbb O0
      go_upto_region 11 with fail
      go_upto_if 83 with fail
      go_cut [] from 82 to 83 (fun wc => wc = w4)
      case first =>
        go_wp2
        go_meet
        exact rfl
      case rest =>
        rename World => w9
        have e9 : w9 = w4 := hcut
        clear hcut
        rw [e9]
        apply_assumption
        exact cxT13 w w4 ba bb n rc ro rs _ _ _ HJA4 HJB HO HK4 HBB HL HR Hn HN _ _ _ _ _ _ _ _ _ _ _ _ _ _ _ _ _ _ _ _ _ _ _ _ _ _ _ _ _ _ _ _ _ _ _ _ _ _ _ _ _ _ _ _ _ _ _ _ _ _ _ _ _ _ _ _ _ _ _ _ _ _ _ _ _ _ _ _ _ _ _ _ _ _ _ _ _ _ _ _ _ _ _ _ _ _ _ _ _ _ _ _ _ _ _ _ _ _ _ _ _ _ _ _ _ _ _ _ _ _ _ _ _ _ _ _ _ _ _ _ _ _ _ _ _ _ _ _ _ _ _ _ _ _ _ _ _ _ _ _ _ _ _ _ _ _ _ _ _ _ _ _ _ _ _ _ _ _ _ _ _ _ _ _ _ _ _ _ _ _ _ _ _
end Go.Proofs.YtflnjlbafchnaaaGreatDoor
