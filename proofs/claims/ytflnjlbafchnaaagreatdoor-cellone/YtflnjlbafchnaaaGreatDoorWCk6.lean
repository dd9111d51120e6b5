/-
  The laws of cells: spreads: the jobs begin.
-/
import Derived.Test.YtflnjlbafchnaaaGreatDoorWCkA
import Derived.Test.YtflnjlbafchnaaaGreatDoorWCk2
import Derived.Test.YtflnjlbafchnaaaGreatDoorWChA
import Derived.Test.YtflnjlbafchnaaaGreatDoorWOld
namespace Go.Proofs.YtflnjlbafchnaaaGreatDoor
open Go.RowKit

theorem CM.first (w W : World) (sb mb : Nat) (hs : W.heap[sb]? = some (.cells #[.slice (some ⟨mb, 0, none⟩) 3 3, .slice none 0 0, .slice none 0 0] 94 (0, 0))) (hm : W.heap[mb]? = some (.cells #[.slice none 0 0, .slice none 0 0, .slice none 0 0] 55 (0, 0))) (h1 : w.heap.size ≤ sb) (h2 : w.heap.size ≤ mb) (k : Kept Nil w W) (J : Nat → Jb) : CM w W sb mb ⟨none, 0, [], none, 0, []⟩ nil3 J :=
  ⟨hs, hm, fun m hm => by
    have e : m = ⟨none, 0, []⟩ := by simp [nil3] at hm; exact hm
    rw [e]
    exact World.ownsRow_nil _ _ _ _, World.ownsRow_nil _ _ _ _, World.ownsRow_nil _ _ _ _, fun i hi => absurd hi (by simp), fun i j hi => absurd hi (by simp), fun i hi => absurd hi (by simp), h1, h2, k⟩
theorem BgI.zero (rs : List Br) (J : Nat → Jb) : BgI rs ⟨none, 0, [], none, 0, []⟩ J := ⟨rfl, fun i hi => absurd hi (by simp)⟩
theorem off_tyG {n0 g : Nat} {t u : TypeId} {cs : Array Value} {fr : Nat × Nat} (h : u ≠ t) : ¬ TyG n0 t g (.cells cs u fr) := fun ⟨_, _, _, e⟩ => by
  simp only [Obj.cells.injEq] at e
  exact h e.2.1
def SpPost (w : World) (rs : List Br) (e : Ending) (w' : World) : Prop := ∃ sb mb L J, e = .returned (.pointer (some ⟨sb, 0, none⟩)) ∧ CM w w' sb mb L nil3 J ∧ BgI rs L J ∧ L.ds.length ≤ 6 ∧ L.ds.length ≤ rs.length ∧ (L.ds.length = rs.length ∨ L.ds.length = 6)
set_option maxRecDepth 100000 in
set_option maxHeartbeats 8000000 in
theorem spreads_any (w : World) (ro : Option Addr) (rc : Nat) (rs : List Br) (hR : BrRow w.heap.size w ro rs) :
    Calls Tryz.prog 38 #[.slice ro rs.length rc] w (SpPost w rs) := by
  have HR : Hid (BrRow w.heap.size w ro rs) := hR
  clear hR
  obtain ⟨W, hW⟩ : ∃ W, W = (w.alloc (.cells #[.slice none 0 0, .slice none 0 0, .slice none 0 0] 55)).alloc (.cells #[.slice (some ⟨w.heap.size, 0, none⟩) 3 3, .slice none 0 0, .slice none 0 0] 94) := ⟨_, rfl⟩
  obtain ⟨sb, Hsb⟩ : ∃ A, Hid (A = w.heap.size + 1) := ⟨_, rfl⟩
  obtain ⟨mb, Hmb⟩ : ∃ A, Hid (A = w.heap.size) := ⟨_, rfl⟩
  have HM0 : Hid (CM w W sb mb ⟨none, 0, [], none, 0, []⟩ nil3 (fun _ => Jb.new 1 [] [] 0 0 1)) := by
    refine CM.first w W sb mb ?_ ?_ (by rw [Hsb.out]; omega) (by rw [Hmb.out]; exact Nat.le_refl _) (by rw [hW]; exact ((Kept.refl _ _).alloc _).alloc _) _
    · rw [hW, Hsb.out, Hmb.out]
      have := blk_new (w.alloc (.cells #[.slice none 0 0, .slice none 0 0, .slice none 0 0] 55)) (.cells #[.slice (some ⟨w.heap.size, 0, none⟩) 3 3, .slice none 0 0, .slice none 0 0] 94)
      simpa using this
    · rw [hW, Hmb.out]
      exact blk_past (blk_new _ _) _
  obtain ⟨i2, hi2, hx0, hx1, hx2⟩ := info_parts Tryz.infoJp
  obtain ⟨i3, hi3, hy0, hy1, hy2⟩ := info_parts Tryz.infoBg
  go_enter Tryz.func38, Tryz.ntmps38
  go_upto_region 2 with fail
  rw [← hW, ← Hsb.out]
  clear hW Hsb Hmb
  go_wp2_with fail
  go_loopw [4] (fun u wr => ∃ (L : Lo) (J : Nat → Jb) (n : Nat), n ≤ 6 ∧ n ≤ rs.length ∧ u = .int .i64 n ∧ Hid (n = L.ds.length) ∧ Hid (CM w wr sb mb L nil3 J) ∧ Hid (BgI rs L J)) (fun u _ => 6 - (intOf u).toNat)
  case atStart => exact ⟨⟨none, 0, [], none, 0, []⟩, _, 0, by omega, Nat.zero_le _, rfl, rfl, HM0.out, BgI.zero _ _⟩
  case round =>
    obtain ⟨⟨jo, jc, ds, wo, wc, xs⟩, J, n, hn6, hnr, rfl, Hn', HM, HBG⟩ := hrel
    have Hn : Hid (n = ds.length) := Hn'.out
    have Hnx : Hid (n = xs.length) := Hn.out.trans HBG.out.len.symm
    clear HM0 Hn'
    rename World => wr
    by_cases hlt : n < rs.length ∧ n < 6
    · obtain ⟨hl1, hl2⟩ := hlt
      have hd1 : decide ((n : Int) < (rs.length : Int)) = true := decide_eq_true (by omega)
      have hn1 : (n : Int) < rs.length := by omega
      have hn2 : (n : Int) < 6 := by omega
      obtain ⟨a, ea, hab, c0, c1, c2, c3, c4, c5, lk, lv⟩ := (HR.out.kept HM.out.kw) n hl1
      obtain ⟨r, Hr⟩ : ∃ r : Br, Hid (r = rs[n]) := ⟨rs[n], (rfl : rs[n] = rs[n])⟩
      rw [← Hr.out] at c0 c1 c2 c3 c4 c5 lk lv
      obtain ⟨rkd, rk, rv, rm, rtg, rat⟩ := r
      simp only at c0 c1 c2 c3 c4 c5 lk lv
      subst ea
      have JO := jobOf_any rkd rk rv rm rtg rat wr lk lv
      clear hab lk lv
      go_wp2_with fail
      go_fit JO
      rintro ee w1 ⟨⟨xkd, xk, xv, xm, xtg, xat⟩, rfl, hx, hat, k1⟩
      have HX : Hid (BgOk ⟨xkd, xk, xv, xm, xtg, xat⟩) := hx
      have HAT : Hid ((xat : Int) = 1 + rat % 3) := hat
      have K1 : Hid (Kept Nil wr w1) := k1
      unfold bgV
      simp only
      clear JO c0 c1 c2 c3 c4 c5 hx hat k1
      obtain ⟨W1, hW1⟩ : ∃ W, W = w1.alloc (.cells #[.int .i64 xkd, .string (bs xk), .string (bs xv), .int .i64 xm, .int .i64 xtg, .int .i64 xat] 91) := ⟨_, rfl⟩
      obtain ⟨P, HP⟩ : ∃ A, Hid (A = w1.heap.size) := ⟨_, rfl⟩
      have HPB : Hid (W1.heap[P]? = some (.cells #[.int .i64 xkd, .string (bs xk), .string (bs xv), .int .i64 xm, .int .i64 xtg, .int .i64 xat] 91 (0, 0))) := by rw [hW1, HP.out]; exact blk_new _ _
      have KW1 : Hid (Kept Nil wr W1) := by rw [hW1]; exact K1.out.alloc _
      go_upto_region 6 with fail
      rw [← hW1, ← HP.out]
      clear hW1 HP
      have p0 : W1.cell? ⟨P, 0, none⟩ = some (.int .i64 xkd) := blk_at HPB.out 0 rfl
      have p1 : W1.cell? ⟨P, 1, none⟩ = some (.string (bs xk)) := blk_at HPB.out 1 rfl
      have p2 : W1.cell? ⟨P, 2, none⟩ = some (.string (bs xv)) := blk_at HPB.out 2 rfl
      have p3 : W1.cell? ⟨P, 3, none⟩ = some (.int .i64 xm) := blk_at HPB.out 3 rfl
      have p4 : W1.cell? ⟨P, 4, none⟩ = some (.int .i64 xtg) := blk_at HPB.out 4 rfl
      have p5 : W1.cell? ⟨P, 5, none⟩ = some (.int .i64 xat) := blk_at HPB.out 5 rfl
      have NE := cnew_any 3 xat xkd xk xv xm xtg W1 (by omega) HX.out.at' HX.out.c (by have h1 : xkd ≤ 5 := HX.out.kd.2; omega) (by have h1 : xk.length = 1 := abc_len HX.out.k; omega) (by have h1 : xv.length ≤ 3 := HX.out.v; omega) HX.out.tg HX.out.t2
      go_wp2_with fail
      go_fit NE
      rintro ee w2 ⟨b, rfl, hbg, hjb, k2⟩
      have HBW : Hid (W1.heap.size ≤ b) := hbg
      have HJ : Hid (JbAt w2 b (Jb.new xkd xk xv xm xtg xat) ⟨none, 0, none, 0⟩) := hjb
      have K2 : Hid (Kept Nil wr w2) := KW1.out.trans k2
      have HPB2 : Hid (w2.heap[P]? = some (.cells #[.int .i64 xkd, .string (bs xk), .string (bs xv), .int .i64 xm, .int .i64 xtg, .int .i64 xat] 91 (0, 0))) := k2.block _ _ HPB.out (fun x => x)
      have HM2 : Hid (CM w w2 sb mb ⟨jo, jc, ds, wo, wc, xs⟩ nil3 J) := HM.out.next K2.out
      clear NE p0 p1 p2 p3 p4 p5 hbg hjb k2 HPB
      obtain ⟨W2, hW2⟩ : ∃ W, W = w2.alloc (.cells #[.pointer (some ⟨b, 0, none⟩)] 67) := ⟨_, rfl⟩
      have KW2 : Hid (Kept Nil w2 W2) := by rw [hW2]; exact (Kept.refl _ _).alloc _
      have HLr : Hid (W2.ownsRow w.heap.size 67 1 (.slice jo n jc) n (ds.map jpV)) := by
        have h1 : w2.ownsRow w.heap.size 67 1 (.slice jo ds.length jc) ds.length (ds.map jpV) := HM2.out.jr
        rw [← Hn.out] at h1
        rw [hW2]
        exact World.ownsRow.alloc h1 _
      have SR1 : Hid (Src Tryz.prog 1 92 (.slice (some ⟨w2.heap.size, 0, none⟩) 1 1) 1 [.pointer (some ⟨b, 0, none⟩)] W2) := by rw [hW2]; exact one_src w2 67 92 _ Tryz.underlying92 rfl
      have hsW2 : w.heap.size ≤ W2.heap.size := (HM2.out.kw.trans KW2.out).size
      have HLL : Hid (n + 1 ≤ maxLen ∧ (n + 1) * 64 ≤ 140737488355328) := by constructor <;> (try unfold maxLen) <;> omega
      have HLM : Hid ((n + 1) * 8 ≤ 140737488355328) := by show _ ≤ _; omega
      have HS2 : Hid (w2.heap[sb]? = some (.cells #[.slice (some ⟨mb, 0, none⟩) 3 3, .slice jo n jc, .slice wo n wc] 94 (0, 0))) := by
        have h1 : w2.heap[sb]? = some (.cells #[.slice (some ⟨mb, 0, none⟩) 3 3, .slice jo ds.length jc, .slice wo xs.length wc] 94 (0, 0)) := HM2.out.sp
        rw [← Hn.out, ← Hnx.out] at h1
        exact h1
      have s1 : w2.cell? ⟨sb, 1, none⟩ = some (.slice jo n jc) := blk_at HS2.out 1 rfl
      go_upto_region 10 with (at_builtin; rw [← hW2]; go_must (refine wpList_append_src _ rfl _ _ 92 92 rfl w.heap.size 67 i2 (.pointer none) 1 8 Tryz.underlying92 hi2 hx0 hx1 hx2 rfl (.slice jo n jc) n (ds.map jpV) rfl HLr.out (.slice (some ⟨w2.heap.size, 0, none⟩) 1 1) 1 [.pointer (some ⟨b, 0, none⟩)] rfl SR1.out HLL.out.1 HLM.out hsW2 ?_); intro a7 c7 w7 ho7 hg7; have HO7 : Hid (w7.ownsRow w.heap.size 67 1 (.slice a7 (n + 1) c7) (n + 1) (ds.map jpV ++ [.pointer (some ⟨b, 0, none⟩)])) := ho7; have KG : Hid (Kept (TyG w.heap.size 67) W2 w7) := kept_grown HLr.out hg7; have HS7 : Hid (w7.heap[sb]? = some (.cells #[.slice (some ⟨mb, 0, none⟩) 3 3, .slice jo n jc, .slice wo n wc] 94 (0, 0))) := KG.out.block _ _ (KW2.out.block _ _ HS2.out (fun x => x)) (off_tyG (by decide)); have r7 : w7.cell? ⟨sb, 1, none⟩ = some (.slice jo n jc) := blk_at HS7.out 1 rfl; have rf7 := blk_free HS7.out 1; clear ho7 hg7)
      obtain ⟨X7, hX7⟩ : ∃ X, X = w7.setCell ⟨sb, 1, none⟩ (.slice a7 (n + 1) c7) := ⟨_, rfl⟩
      rw [← hX7]
      have HS8 : Hid (X7.heap[sb]? = some (.cells #[.slice (some ⟨mb, 0, none⟩) 3 3, .slice a7 (n + 1) c7, .slice wo n wc] 94 (0, 0))) := by rw [hX7]; exact blk_set HS7.out 1 _
      have K7 : Hid (Kept (TyG w.heap.size 94) w7 X7) := by rw [hX7]; exact one_tyG ((Kept.refl _ _).setCell (p := ⟨sb, 1, none⟩) (fun _ => rfl) _) HS7.out HM2.out.sbw
      have HXB : Hid (Kept (XB w.heap.size) w2 X7) := (xb_nil KW2.out).trans ((ty_xb KG.out (.inl rfl)).trans (ty_xb K7.out (.inr (.inr rfl))))
      have HJr7 : Hid (X7.ownsRow w.heap.size 67 1 (.slice a7 (n + 1) c7) (n + 1) (ds.map jpV ++ [.pointer (some ⟨b, 0, none⟩)])) := own_ty HO7.out K7.out (by decide)
      have HWr7 : Hid (X7.ownsRow w.heap.size 91 6 (.slice wo n wc) n (xs.flatMap bgC)) := by
        have h1 : w2.ownsRow w.heap.size 91 6 (.slice wo xs.length wc) xs.length (xs.flatMap bgC) := HM2.out.wr
        rw [← Hnx.out] at h1
        exact own_ty (own_ty (own_kept h1 KW2.out (fun _ _ _ x => x)) KG.out (by decide)) K7.out (by decide)
      have HPB7 : Hid (X7.heap[P]? = some (.cells #[.int .i64 xkd, .string (bs xk), .string (bs xv), .int .i64 xm, .int .i64 xtg, .int .i64 xat] 91 (0, 0))) := K7.out.block _ _ (KG.out.block _ _ (KW2.out.block _ _ HPB2.out (fun x => x)) (off_tyG (by decide))) (off_tyG (by decide))
      clear hX7 hW2 s1 r7 rf7 SR1
      have q0 : X7.cell? ⟨P, 0, none⟩ = some (.int .i64 xkd) := blk_at HPB7.out 0 rfl
      have q1 : X7.cell? ⟨P, 1, none⟩ = some (.string (bs xk)) := blk_at HPB7.out 1 rfl
      have q2 : X7.cell? ⟨P, 2, none⟩ = some (.string (bs xv)) := blk_at HPB7.out 2 rfl
      have q3 : X7.cell? ⟨P, 3, none⟩ = some (.int .i64 xm) := blk_at HPB7.out 3 rfl
      have q4 : X7.cell? ⟨P, 4, none⟩ = some (.int .i64 xtg) := blk_at HPB7.out 4 rfl
      have q5 : X7.cell? ⟨P, 5, none⟩ = some (.int .i64 xat) := blk_at HPB7.out 5 rfl
      have s2 : X7.cell? ⟨sb, 2, none⟩ = some (.slice wo n wc) := blk_at HS8.out 2 rfl
      have SRx : Hid (Src Tryz.prog 6 87 (.slice (some ⟨X7.heap.size, 0, none⟩) 1 1) 1 [.int .i64 xkd, .string (bs xk), .string (bs xv), .int .i64 xm, .int .i64 xtg, .int .i64 xat] (X7.drew.alloc (.cells #[.int .i64 xkd, .string (bs xk), .string (bs xv), .int .i64 xm, .int .i64 xtg, .int .i64 xat] 91))) := bg_src X7.drew ⟨xkd, xk, xv, xm, xtg, xat⟩
      have KA : Hid (Kept Nil X7 (X7.drew.alloc (.cells #[.int .i64 xkd, .string (bs xk), .string (bs xv), .int .i64 xm, .int .i64 xtg, .int .i64 xat] 91))) := (Kept.refl _ _).drew.alloc _
      have HW8 : Hid ((X7.drew.alloc (.cells #[.int .i64 xkd, .string (bs xk), .string (bs xv), .int .i64 xm, .int .i64 xtg, .int .i64 xat] 91)).ownsRow w.heap.size 91 6 (.slice wo n wc) n (xs.flatMap bgC)) := own_kept HWr7.out KA.out (fun _ _ _ x => x)
      have hsA : w.heap.size ≤ (X7.drew.alloc (.cells #[.int .i64 xkd, .string (bs xk), .string (bs xv), .int .i64 xm, .int .i64 xtg, .int .i64 xat] 91)).heap.size := Nat.le_trans (Nat.le_trans HM2.out.kw.size HXB.out.size) KA.out.size
      have hlP : P < X7.heap.size := lt_of_block HPB7.out
      have hlS : sb < X7.heap.size := lt_of_block HS8.out
      go_region_law (first | (refine step_append_src (X7.drew.alloc (.cells #[.int .i64 xkd, .string (bs xk), .string (bs xv), .int .i64 xm, .int .i64 xtg, .int .i64 xat] 91)) rfl (.tmp 54) (.tmp 56) 87 87 rfl w.heap.size 91 i3 (.agg #[.int .i64 0, .string ⟨#[]⟩, .string ⟨#[]⟩, .int .i64 0, .int .i64 0, .int .i64 0]) 6 64 Tryz.underlying87 hi3 hy0 hy1 hy2 rfl (.slice wo n wc) n (xs.flatMap bgC) (by simp [Act.eval]) HW8.out (.slice (some ⟨X7.heap.size, 0, none⟩) 1 1) 1 [.int .i64 xkd, .string (bs xk), .string (bs xv), .int .i64 xm, .int .i64 xtg, .int .i64 xat] (by simp [Act.eval]) SRx.out HLL.out.1 HLL.out.2 hsA ?_; intro a8 c8 w8 ho8 hg8; have HO8 : Hid (w8.ownsRow w.heap.size 91 6 (.slice a8 (n + 1) c8) (n + 1) (xs.flatMap bgC ++ bgC ⟨xkd, xk, xv, xm, xtg, xat⟩)) := ho8; have KG8 : Hid (Kept (TyG w.heap.size 91) (X7.drew.alloc (.cells #[.int .i64 xkd, .string (bs xk), .string (bs xv), .int .i64 xm, .int .i64 xtg, .int .i64 xat] 91)) w8) := kept_grown HW8.out hg8; have HS9 : Hid (w8.heap[sb]? = some (.cells #[.slice (some ⟨mb, 0, none⟩) 3 3, .slice a7 (n + 1) c7, .slice wo n wc] 94 (0, 0))) := KG8.out.block _ _ (KA.out.block _ _ HS8.out (fun x => x)) (off_tyG (by decide)); have r8 : w8.cell? ⟨sb, 2, none⟩ = some (.slice wo n wc) := blk_at HS9.out 2 rfl; have rf8 := blk_free HS9.out 2; clear ho8 hg8))
      all_goals
        have HF : Hid (CM w (w8.setCell ⟨sb, 2, none⟩ (.slice a8 (n + 1) c8)) sb mb ⟨a7, c7, ds ++ [b], a8, c8, xs ++ [⟨xkd, xk, xv, xm, xtg, xat⟩]⟩ nil3 (updj J ds.length (Jb.new xkd xk xv xm xtg xat)) ∧ BgI rs ⟨a7, c7, ds ++ [b], a8, c8, xs ++ [⟨xkd, xk, xv, xm, xtg, xat⟩]⟩ (updj J ds.length (Jb.new xkd xk xv xm xtg xat))) := by
          have k9 : Kept (TyG w.heap.size 94) w8 (w8.setCell ⟨sb, 2, none⟩ (.slice a8 (n + 1) c8)) := one_tyG ((Kept.refl _ _).setCell (p := ⟨sb, 2, none⟩) (fun _ => rfl) _) HS9.out HM2.out.sbw
          have kx : Kept (XB w.heap.size) w2 (w8.setCell ⟨sb, 2, none⟩ (.slice a8 (n + 1) c8)) := (HXB.out.trans (xb_nil KA.out)).trans ((ty_xb KG8.out (.inr (.inl rfl))).trans (ty_xb k9 (.inr (.inr rfl))))
          have hj8 := own_ty (own_ty (own_kept HJr7.out KA.out (fun _ _ _ x => x)) KG8.out (by decide)) k9 (by decide)
          have hw8 := own_ty HO8.out k9 (by decide)
          refine ⟨HM2.out.grow kx HJ.out (fun i hi e => ?_) ?_ ?_ (JRow.push Hn.out hj8) (BegR.push Hnx.out hw8), HBG.out.push HX.out (hn := by show ds.length < rs.length; rw [← Hn.out]; exact hl1) ?_⟩
          · obtain ⟨K, hK⟩ := HM.out.jb i hi
            have h1 := lt_of_block hK
            rw [e] at h1
            have h2 := KW1.out.size
            have h3 := HBW.out
            omega
          · have h1 := HM.out.kw.size
            have h2 := KW1.out.size
            have h3 := HBW.out
            omega
          · have h1 := blk_set HS9.out 2 (.slice a8 (n + 1) c8)
            simp only [List.length_append, List.length_singleton]
            rw [← Hn.out, ← Hnx.out]
            exact h1
          · show (xat : Int) = 1 + (rs[ds.length]'_).at' % 3
            have e1 : ds.length = n := Hn.out.symm
            simp only [e1]
            rw [← Hr.out]
            exact HAT.out
        have HLN : Hid (n + 1 = (ds ++ [b]).length) := by show _ = _; rw [List.length_append, Hn.out]; rfl
        go_wp2
        go_roundw
        case rel => exact ⟨⟨a7, c7, ds ++ [b], a8, c8, xs ++ [(⟨xkd, xk, xv, xm, xtg, xat⟩ : Bg)]⟩, updj J ds.length (Jb.new xkd xk xv xm xtg xat), n + 1, by omega, by omega, by go_num, HLN.out, HF.out.1, HF.out.2⟩
        case measure => simp [intOf]; omega
    · have HF : Hid (SpPost w rs (.returned (.pointer (some ⟨sb, 0, none⟩))) wr) := ⟨sb, mb, _, _, rfl, HM.out, HBG.out, by show ds.length ≤ 6; rw [← Hn.out]; exact hn6, by show ds.length ≤ _; rw [← Hn.out]; exact hnr, by show ds.length = _ ∨ ds.length = 6; rw [← Hn.out]; omega⟩
      by_cases hl1 : n < rs.length
      · have hd1 : decide ((n : Int) < (rs.length : Int)) = true := decide_eq_true (by omega)
        have hn1 : (n : Int) < rs.length := by omega
        have hn2 : ¬ (n : Int) < 6 := by omega
        have hd2 : decide ((n : Int) < 6) = false := decide_eq_false (by omega)
        go_wp2
        go_ret
        exact HF.out
      · have hd1 : decide ((n : Int) < (rs.length : Int)) = false := decide_eq_false (by omega)
        go_wp2
        go_ret
        exact HF.out
end Go.Proofs.YtflnjlbafchnaaaGreatDoor
