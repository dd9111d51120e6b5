/-
  Joined: WCk3, WCk4.
-/
import Derived.Test.YtflnjlbafchnaaaGreatDoorWCkA
/-
  The laws of cells: one command of one job.
-/
namespace Go.Proofs.YtflnjlbafchnaaaGreatDoor
open Go.RowKit

theorem CR.cmOk {ms : List (List Pr)} {J : Nat → Jb} {n t : Nat} {V : List UInt8 → List UInt8} {M : List UInt8 → Nat} (h : CR ms J n V M t) {i : Nat} (hi : i < n) : ∀ c : Ce, c.Ok → CmOk (J i).kd (J i).k (J i).v (J i).m c.v c.n := fun c hc => by
  have o := (h.ri.job i hi).ok
  have := o.k2
  exact ⟨h.cmd i hi, o.kd, o.k1, by omega, o.v, hc.v, hc.n, hc.vn⟩
theorem next_seven {j : Jb} (h : j.ph = 7) : j.next = (0, ⟨0, [], [], 0⟩, false) := by
  unfold Jb.next
  rw [if_neg (by omega), if_neg (by omega), if_neg (by omega), if_neg (by omega), if_neg (by omega), if_neg (by omega), if_neg (by omega)]
theorem cd_len {c : Ce} (h : c.Ok) : (ceTxt c).length ≤ maxLen := by
  have := txt_len h
  unfold maxLen
  omega
/-- The command's key and value are short. -/
theorem next_len {j : Jb} (o : j.Ok) : j.next.2.1.k.length ≤ maxLen ∧ j.next.2.1.v.length ≤ maxLen := by
  have hk : (cKey j.k).length ≤ maxLen := by have := o.k2; unfold cKey maxLen; simp; omega
  have h0 : ([] : List UInt8).length ≤ maxLen := Nat.zero_le _
  have hp := o.ph
  rcases (show j.ph = 0 ∨ j.ph = 1 ∨ j.ph = 2 ∨ j.ph = 3 ∨ j.ph = 4 ∨ j.ph = 5 ∨ j.ph = 6 ∨ j.ph = 7 by omega) with e | e | e | e | e | e | e | e
  · rw [next_rd (.inl e)]; exact ⟨hk, h0⟩
  · rw [next_wr (.inl e)]; exact ⟨hk, cd_len (Jb.wr_ok o (.inl e))⟩
  · rw [next_rd (.inr (.inl e))]; exact ⟨hk, h0⟩
  · rw [next_wr (.inr (.inl e))]; exact ⟨hk, cd_len (Jb.wr_ok o (.inr (.inl e)))⟩
  · rw [next_rd (.inr (.inr e))]; exact ⟨hk, h0⟩
  · rw [next_wr (.inr (.inr (.inl e)))]; exact ⟨hk, cd_len (Jb.wr_ok o (.inr (.inr (.inl e))))⟩
  · rw [next_wr (.inr (.inr (.inr e)))]; exact ⟨hk, cd_len (Jb.wr_ok o (.inr (.inr (.inr e))))⟩
  · rw [next_seven e]; exact ⟨h0, h0⟩
/-- What just this step may touch. -/
def XK (mb b : Nat) : Nat → Obj → Prop := fun g _ => g = mb ∨ g = b
def StepPost (w X : World) (sb mb : Nat) (L : Lo) (ns : List Ml) (J : Nat → Jb) (k : Nat) (e : Ending) (X' : World) : Prop :=
  ((J k).ph = 7 ∧ e = .returned (.bool false) ∧ Kept Nil X X') ∨ ((J k).ph ≤ 6 ∧ e = .returned (.bool true) ∧ ∃ ns' ps, (ns.map Ml.ps)[(J k).next.1 - 1]? = some ps ∧ ns'.map Ml.ps = (ns.map Ml.ps).set ((J k).next.1 - 1) (jP (J k) ps) ∧ CM w X' sb mb L ns' (updj J k ((J k).answer (jR (J k) ps))) ∧ Kept (XC w.heap.size) X X' ∧ ∀ b, L.ds[k]? = some b → Kept (XK mb b) X X')
theorem xc_nil {n0 : Nat} {X Y : World} (k : Kept Nil X Y) : Kept (XC n0) X Y := k.mono (fun _ _ x => x.elim)
def NewG (W : World) : Nat → Obj → Prop := fun q _ => W.heap.size ≤ q
theorem newG_cell {W w' : World} {p : Addr} {v : Value} (h : W.cell? p = some v) (hl : p.block < W.heap.size) (hk : Kept (NewG W) W w') : w'.cell? p = some v := cell_kept hk (fun _ e => by have e' : W.heap.size ≤ p.block := e; omega) h
set_option maxRecDepth 100000 in
set_option maxHeartbeats 8000000 in
theorem cstep_any (w X : World) (sb mb : Nat) (L : Lo) (ns : List Ml) (J : Nat → Jb) (V : List UInt8 → List UInt8) (M : List UInt8 → Nat) (t k : Nat) (h : CM w X sb mb L ns J) (hc : CR (ns.map Ml.ps) J L.ds.length V M t) (hk : k < L.ds.length) (hL : LW w) (hw : 14 ≤ w.heap.size) :
    Calls Tryz.prog 39 #[.pointer (some ⟨sb, 0, none⟩), .int .i64 k] X (StepPost w X sb mb L ns J k) := by
  have HM : Hid (CM w X sb mb L ns J) := h
  have HCR : Hid (CR (ns.map Ml.ps) J L.ds.length V M t) := hc
  have HL : Hid (∀ Y, Kept Nil w Y → LW Y ∧ 14 ≤ Y.heap.size) := fun Y kY => ⟨hL.kept kY, Nat.le_trans hw kY.size⟩
  obtain ⟨ja, hja⟩ : ∃ a, L.jo = some a := by
    obtain ⟨g, e, _⟩ := own_some h.jr (by omega)
    exact ⟨_, e⟩
  obtain ⟨ma, Hma⟩ : ∃ a : Addr, Hid (a = ⟨mb, 0, none⟩) := ⟨_, rfl⟩
  obtain ⟨j, Hj⟩ : ∃ j, Hid (j = J k) := ⟨_, rfl⟩
  obtain ⟨b, Hb⟩ : ∃ b, Hid (b = L.ds[k]) := ⟨L.ds[k], (rfl : L.ds[k] = L.ds[k])⟩
  obtain ⟨n, Hn⟩ : ∃ n, Hid (n = L.ds.length) := ⟨_, rfl⟩
  obtain ⟨jc, Hjc⟩ : ∃ n, Hid (n = L.jc) := ⟨_, rfl⟩
  have hO : j.Ok := by rw [Hj.out]; exact (hc.ri.job k hk).ok
  have HO : Hid j.Ok := hO
  have HCO : Hid (∀ c : Ce, c.Ok → CmOk j.kd j.k j.v j.m c.v c.n) := by rw [Hj.out]; exact hc.cmOk hk
  have HSB : Hid (∀ Y ns' J', CM w Y sb mb L ns' J' → Y.cell? ⟨sb, 0, none⟩ = some (.slice (some ma) 3 3) ∧ Y.cell? ⟨sb, 1, none⟩ = some (.slice (some ja) n jc) ∧ Y.cell? (ja.add k) = some (.pointer (some ⟨b, 0, none⟩))) := fun Y ns' J' hY => by
    refine ⟨by rw [Hma.out]; exact blk_at hY.sp 0 rfl, ?_, by rw [Hb.out]; exact hY.job hk hja⟩
    have := blk_at hY.sp 1 rfl
    rw [hja, ← Hn.out, ← Hjc.out] at this
    exact this
  have HJB : Hid (∀ Y ns', CM w Y sb mb L ns' J → ∃ K, JbAt Y b j K) := fun Y ns' hY => by
    rw [Hb.out, Hj.out]
    exact hY.jb k hk
  have hki : (k : Int) < n := by rw [Hn.out]; omega
  have hk0 : (0 : Int) ≤ k := by omega
  obtain ⟨s0, s1, s2⟩ := HSB.out X ns J h
  obtain ⟨K, hJ⟩ := HJB.out X ns h
  have NX := cnext_any X b j K hJ hO (HL.out X h.kw).1
  have HG : Hid (j.ph ≤ 6 → 1 ≤ j.next.1 ∧ j.next.1 ≤ 3 ∧ j.next.2.2 = true) := by rw [Hj.out]; exact fun hp => hc.grp hk hp
  have HNL := next_len hO
  obtain ⟨q, Hq⟩ : ∃ q, Hid (q = j.next) := ⟨_, rfl⟩
  rw [← Hq.out] at NX HG HNL
  obtain ⟨g, ⟨kd, ky, vl, mm⟩, is⟩ := q
  unfold CNPost cdV at NX
  simp only at NX HG HNL
  have HKL : Hid (ky.length ≤ maxLen ∧ vl.length ≤ maxLen) := HNL
  have HP7 := hO.ph
  clear h hc hL hJ hO HNL
  go_enter Tryz.func39, Tryz.ntmps39
  go_wp2_with fail
  go_fit NX
  rintro ee w3 ⟨rfl, k3⟩
  obtain ⟨W, hW⟩ : ∃ W, W = w3.alloc (.cells #[.int .i64 kd, .string (bs ky), .string (bs vl), .int .i64 mm] 31) := ⟨_, rfl⟩
  obtain ⟨A, HAe⟩ : ∃ A, Hid (A = w3.heap.size) := ⟨_, rfl⟩
  have HAW : Hid (W.heap[A]? = some (.cells #[.int .i64 kd, .string (bs ky), .string (bs vl), .int .i64 mm] 31 (0, 0))) := by rw [hW, HAe.out]; exact blk_new _ _
  have KW : Hid (Kept Nil X W) := by rw [hW]; exact k3.alloc _
  clear NX k3 s0 s1 s2
  go_upto_region 2 with fail
  rw [← hW, ← HAe.out]
  clear hW HAe
  by_cases hp : j.ph = 7
  · have e7 := next_seven hp
    rw [← Hq.out] at e7
    simp only [Prod.mk.injEq] at e7
    obtain ⟨rfl, _, rfl⟩ := e7
    have HF : Hid (StepPost w X sb mb L ns J k (.returned (.bool false)) W) := .inl ⟨by rw [← Hj.out]; exact hp, rfl, KW.out⟩
    clear hp HP7
    go_wp2
    go_ret
    exact HF.out
  · have hp6 : j.ph ≤ 6 := by omega
    obtain ⟨g1, g3, rfl⟩ := HG.out hp6
    have HP6 : Hid (j.ph ≤ 6) := hp6
    obtain ⟨i, hgi⟩ : ∃ i, g = i + 1 := ⟨g - 1, by omega⟩
    have hd1 : decide ((g : Int) < 1) = false := decide_eq_false (by omega)
    have hd2 : decide ((3 : Int) < g) = false := decide_eq_false (by omega)
    have hns : ns.length = 3 := by have := HCR.out.len; rwa [List.length_map] at this
    have hi3 : i < ns.length := by omega
    obtain ⟨mi, Hmi⟩ : ∃ m, Hid (m = ns[i]) := ⟨ns[i], (rfl : ns[i] = ns[i])⟩
    obtain ⟨ao, c, ps⟩ := mi
    have HMW : Hid (CM w W sb mb L ns J) := HM.out.next KW.out
    have HPO : Hid (pairsOk ps = true) := by
      have := HCR.out.ok ns[i].ps (List.mem_map.2 ⟨_, List.getElem_mem hi3, rfl⟩)
      rw [← Hmi.out] at this
      exact this
    have HMA : Hid (∀ Y, CM w Y sb mb L ns J → Y.cell? (ma.add i) = some (.slice ao ps.length c)) := fun Y hY => by
      have := hY.map hi3
      rw [← Hmi.out] at this
      rw [Hma.out, addr_addE]
      simpa [mlV] using this
    have HRW : Hid (∀ Y, CM w Y sb mb L ns J → OwnP w.heap.size Y ao c ps) := fun Y hY => by
      have := hY.row ns[i] (List.getElem_mem hi3)
      rw [← Hmi.out] at this
      exact this
    obtain ⟨ps2, HP2⟩ : ∃ l, Hid (l = apP kd ky vl mm ps) := ⟨_, rfl⟩
    obtain ⟨r, HR⟩ : ∃ r, Hid (r = apR kd ky vl mm ps) := ⟨_, rfl⟩
    have AP : ∀ Y, Kept Nil W Y → Calls Tryz.prog 21 #[.slice ao ps.length c, .agg #[.int .i64 kd, .string (bs ky), .string (bs vl), .int .i64 mm]] Y (ApPost Y ps2 r) := fun Y kY => by
      rw [HP2.out, HR.out]
      have ho := HRW.out Y (HMW.out.next kY)
      exact apply_any _ c ao ps ky vl kd mm Y (ho.row (pairs_fit HPO.out)) ho.nilc (by have := (pairs_ok HPO.out).1; omega) HKL.out.1 HKL.out.2
    have hsub2 : (g : Int) - 1 = (i : Int) := by omega
    have hsub : IntKind.i64.wrap ((g : Int) - 1) = (i : Int) := by
      rw [hsub2]
      simp only [IntKind.wrap_i64]
      omega
    have hi0 : (0 : Int) ≤ (i : Int) := by omega
    have hi1 : (i : Int) < 3 := by omega
    have HGI : Hid (g - 1 = i) := by show _ = _; omega
    have b0 := (HSB.out W ns J HMW.out).1
    have b1 := HMA.out W HMW.out
    have b2 : W.cell? ⟨A, 0, none⟩ = some (.int .i64 kd) := blk_at HAW.out 0 rfl
    have b3 : W.cell? ⟨A, 1, none⟩ = some (.string (bs ky)) := blk_at HAW.out 1 rfl
    have b4 : W.cell? ⟨A, 2, none⟩ = some (.string (bs vl)) := blk_at HAW.out 2 rfl
    have b5 : W.cell? ⟨A, 3, none⟩ = some (.int .i64 mm) := blk_at HAW.out 3 rfl
    have HSP : Hid (∀ Y, Kept (NewG W) W Y → Y.cell? ⟨sb, 0, none⟩ = some (.slice (some ma) 3 3) ∧ Y.cell? (ma.add i) = some (.slice ao ps.length c) ∧ Y.cell? ⟨A, 0, none⟩ = some (.int .i64 kd) ∧ Y.cell? ⟨A, 1, none⟩ = some (.string (bs ky)) ∧ Y.cell? ⟨A, 2, none⟩ = some (.string (bs vl)) ∧ Y.cell? ⟨A, 3, none⟩ = some (.int .i64 mm)) := fun Y kY => by
      have hla := lt_of_block HAW.out
      have hls := lt_of_block HMW.out.sp
      have hlm := lt_of_block HMW.out.mp
      exact ⟨newG_cell b0 hls kY, newG_cell b1 (by rw [add_block, Hma.out]; exact hlm) kY, newG_cell b2 hla kY, newG_cell b3 hla kY, newG_cell b4 hla kY, newG_cell b5 hla kY⟩
    clear hp HP7 HG hgi g1 g3 hsub2
    go_upto_region 4 with fail
    go_region_held3 (fun w' => w'.cell? ⟨sb, 0, none⟩ = some (.slice (some ma) 3 3) ∧ w'.cell? (ma.add i) = some (.slice ao ps.length c) ∧ w'.cell? ⟨A, 0, none⟩ = some (.int .i64 kd) ∧ w'.cell? ⟨A, 1, none⟩ = some (.string (bs ky)) ∧ w'.cell? ⟨A, 2, none⟩ = some (.string (bs vl)) ∧ w'.cell? ⟨A, 3, none⟩ = some (.int .i64 mm)) (first | (with_reducible assumption) | (refine HSP.out _ ?_; repeat (first | (with_reducible exact KcG.out) | (with_reducible exact Kept.refl _ _) | (with_reducible refine Kept.drew ?_) | (with_reducible refine Kept.alloc ?_ _) | (with_reducible refine Kept.setCell ?_ (fun _ => ?_) _) | (first | exact Nat.le_refl _ | exact hszc)))) (first | (go_at_call 21; go_must (go_fit (AP _ (by repeat (first | exact Kept.refl _ _ | refine Kept.drew ?_ | refine Kept.alloc ?_ _)))); rintro _ wc ⟨ao', c', ko, kc, rfl, o5, _, kc0⟩; have Kc : Hid (Kept Nil W wc) := Kept.trans (by repeat (first | exact Kept.refl _ _ | refine Kept.drew ?_ | refine Kept.alloc ?_ _)) kc0; have O5 : Hid (OwnP w.heap.size wc ao' c' ps2) := own_mono o5 (Nat.le_trans HMW.out.kw.size (Kept.size (X := Nil) (by repeat (first | exact Kept.refl _ _ | refine Kept.drew ?_ | refine Kept.alloc ?_ _)))); have hszc : W.heap.size ≤ wc.heap.size := Kc.out.size; have KcG : Hid (Kept (NewG W) W wc) := Kc.out.mono (fun _ _ x => x.elim); have sc2 := HSP.out wc KcG.out; (try (have P1 : Hid (wc.heap[W.heap.size]? = some (.cells #[.int .i64 0, .string ⟨#[]⟩, .int .i64 0, .slice none 0 0] 50 (0, 0))) := kc0.block _ _ (by first | exact blk_new W _ | exact blk_new W.drew _) (fun x => x); have P1c0 : wc.cell? ⟨W.heap.size, 0, none⟩ = some (.int .i64 0) := blk_at P1.out 0 rfl; have P1f0 := blk_free P1.out 0; have P1c1 : wc.cell? ⟨W.heap.size, 1, none⟩ = some (.string ⟨#[]⟩) := blk_at P1.out 1 rfl; have P1f1 := blk_free P1.out 1; have P1c2 : wc.cell? ⟨W.heap.size, 2, none⟩ = some (.int .i64 0) := blk_at P1.out 2 rfl; have P1f2 := blk_free P1.out 2; have P1c3 : wc.cell? ⟨W.heap.size, 3, none⟩ = some (.slice none 0 0) := blk_at P1.out 3 rfl; have P1f3 := blk_free P1.out 3; have P1l : W.heap.size < wc.heap.size := lt_of_block P1.out; have P1n : wc.heap.size ≠ W.heap.size := Nat.ne_of_gt P1l; have P1m : W.heap.size ≠ wc.heap.size := Nat.ne_of_lt P1l)); clear o5 kc0; (try (unfold rrV))))
    all_goals
      first
        | (obtain ⟨X6, hX⟩ : ∃ X, X = wc.alloc (.cells #[.int .i64 r.kd, .string (bs r.v), .int .i64 r.n, .slice ko r.ks.length kc] 50) := ⟨_, rfl⟩; rw [← hX]; have HS : Hid (X6.heap[wc.heap.size]? = some (.cells #[.int .i64 r.kd, .string (bs r.v), .int .i64 r.n, .slice ko r.ks.length kc] 50 (0, 0)) ∧ Kept Nil W X6 ∧ OwnP w.heap.size X6 ao' c' ps2) := (by rw [hX]; exact ⟨blk_new _ _, Kc.out.alloc _, O5.out.kept ((Kept.refl _ _).alloc _)⟩); clear hX; obtain ⟨G, HGe⟩ : ∃ G, Hid (G = wc.heap.size) := ⟨_, rfl⟩; rw [← HGe.out] at HS ⊢)
        | (obtain ⟨X6, hX⟩ : ∃ X, X = ((((wc.setCell ⟨W.heap.size, 0, none⟩ (.int .i64 r.kd)).setCell ⟨W.heap.size, 1, none⟩ (.string (bs r.v))).setCell ⟨W.heap.size, 2, none⟩ (.int .i64 r.n)).setCell ⟨W.heap.size, 3, none⟩ (.slice ko r.ks.length kc)) := ⟨_, rfl⟩; rw [← hX]; have HS : Hid (X6.heap[W.heap.size]? = some (.cells #[.int .i64 r.kd, .string (bs r.v), .int .i64 r.n, .slice ko r.ks.length kc] 50 (0, 0)) ∧ Kept Nil W X6 ∧ OwnP w.heap.size X6 ao' c' ps2) := (by rw [hX]; exact ⟨gput4 P1.out, ((((Kc.out.setNew (p := ⟨W.heap.size, 0, none⟩) (Nat.le_refl _) _).setNew (p := ⟨W.heap.size, 1, none⟩) (Nat.le_refl _) _).setNew (p := ⟨W.heap.size, 2, none⟩) (Nat.le_refl _) _).setNew (p := ⟨W.heap.size, 3, none⟩) (Nat.le_refl _) _), own_ty O5.out (one_ty (((((Kept.refl (One W.heap.size) wc).setCell (p := ⟨W.heap.size, 0, none⟩) (fun _ => rfl) _).setCell (p := ⟨W.heap.size, 1, none⟩) (fun _ => rfl) _).setCell (p := ⟨W.heap.size, 2, none⟩) (fun _ => rfl) _).setCell (p := ⟨W.heap.size, 3, none⟩) (fun _ => rfl) _) P1.out) (by decide)⟩); clear hX; obtain ⟨G, HGe⟩ : ∃ G, Hid (G = W.heap.size) := ⟨_, rfl⟩; rw [← HGe.out] at HS ⊢)
      have HM6 : Hid (CM w X6 sb mb L ns J) := HMW.out.next HS.out.2.1
      have m0 := (HSB.out X6 ns J HM6.out).1
      have m1 := HMA.out X6 HM6.out
      have HAD : Hid (ma.add i = ⟨mb, i, none⟩) := by show _ = _; rw [Hma.out, addr_addE]
      have mf : X6.frozen? (ma.add i) = false := by rw [HAD.out]; exact blk_free HM6.out.mp i
      obtain ⟨X7, hX7⟩ : ∃ X, X = X6.setCell (ma.add i) (.slice ao' ps2.length c') := ⟨_, rfl⟩
      have HM7 : Hid (CM w X7 sb mb L (ns.set i ⟨ao', c', ps2⟩) J ∧ Kept (XC w.heap.size) X6 X7 ∧ X7.heap[G]? = some (.cells #[.int .i64 r.kd, .string (bs r.v), .int .i64 r.n, .slice ko r.ks.length kc] 50 (0, 0))) := by
        have hp := HM6.out.put (i := i) (m := ⟨ao', c', ps2⟩) HS.out.2.2
        rw [hX7, HAD.out]
        exact ⟨hp.1, hp.2, hp.2.block _ _ HS.out.1 (XC.off (by decide) (by decide))⟩
      have HK7 : Hid (Kept (XK mb b) X6 X7) := by rw [hX7, HAD.out]; exact (Kept.refl _ _).setCell (p := ⟨mb, i, none⟩) (fun _ => .inl rfl) _
      go_upto_region 6 with fail
      rw [← hX7]
      clear hX7 m0 m1 mf
      obtain ⟨K7, hK7⟩ := HJB.out X7.drew _ (HM7.out.1.next (Kept.refl _ _).drew)
      have AN := canswer_any X7.drew b j K7 hK7 r ko kc HO.out (by have := apR_v kd ky vl mm ps; rw [← HR.out] at this; omega) (HL.out X7.drew HM7.out.1.kw.drew).2 (HL.out X7.drew HM7.out.1.kw.drew).1 HCO.out
      unfold rrV at AN
      have HGc : Hid (∀ Y : World, Y.heap[G]? = some (.cells #[.int .i64 r.kd, .string (bs r.v), .int .i64 r.n, .slice ko r.ks.length kc] 50 (0, 0)) → Y.cell? ⟨G, 0, none⟩ = some (.int .i64 r.kd) ∧ Y.cell? ⟨G, 1, none⟩ = some (.string (bs r.v)) ∧ Y.cell? ⟨G, 2, none⟩ = some (.int .i64 r.n) ∧ Y.cell? ⟨G, 3, none⟩ = some (.slice ko r.ks.length kc)) := fun Y hY => ⟨blk_at hY 0 rfl, blk_at hY 1 rfl, blk_at hY 2 rfl, blk_at hY 3 rfl⟩
      have HANS : Hid (∀ ee wa, JPost X7.drew b (j.answer r) ee wa → ee = .returned (.tuple #[]) ∧ StepPost w X sb mb L ns J k (.returned (.bool true)) wa ∧ wa.cell? ⟨sb, 1, none⟩ = some (.slice (some ja) n jc) ∧ wa.cell? (ja.add k) = some (.pointer (some ⟨b, 0, none⟩)) ∧ wa.cell? ⟨G, 0, none⟩ = some (.int .i64 r.kd) ∧ wa.cell? ⟨G, 1, none⟩ = some (.string (bs r.v)) ∧ wa.cell? ⟨G, 2, none⟩ = some (.int .i64 r.n) ∧ wa.cell? ⟨G, 3, none⟩ = some (.slice ko r.ks.length kc)) := fun ee wa hp => by
        have hp0 := hp
        rw [Hb.out] at hp
        obtain ⟨e1, e2, e3⟩ := (HM7.out.1.next (Kept.refl _ _).drew).ans hk hp
        have hq := Hq.out
        rw [Hj.out] at hq
        have hn1 : (J k).next.1 - 1 = i := by rw [← hq]; exact HGI.out
        have hps : (ns.map Ml.ps)[i]? = some ps := by rw [List.getElem?_map, List.getElem?_eq_getElem hi3, ← Hmi.out]; rfl
        have hP : jP (J k) ps = ps2 := by unfold jP; rw [← hq]; exact HP2.out.symm
        have hR : jR (J k) ps = r := by unfold jR; rw [← hq]; exact HR.out.symm
        have s8 := HSB.out wa _ _ e2
        refine ⟨e1, .inr ⟨by rw [← Hj.out]; exact HP6.out, rfl, ns.set i ⟨ao', c', ps2⟩, ps, by rw [hn1]; exact hps, by rw [hn1, hP, List.map_set], ?_, ?_⟩, s8.2.1, s8.2.2, HGc.out wa (e3.block _ _ (show X7.drew.heap[G]? = _ from HM7.out.2.2) (XC.off (by decide) (by decide)))⟩
        · rw [hR, ← Hj.out]
          exact e2
        · refine ⟨(xc_nil (KW.out.trans HS.out.2.1)).trans (HM7.out.2.1.drew.trans e3), fun b' hb' => ?_⟩
          rw [List.getElem?_eq_getElem hk] at hb'
          have eb : b' = b := by rw [Hb.out]; exact (Option.some.inj hb').symm
          rw [eb]
          have k9 := hp0.2.2
          exact ((KW.out.trans HS.out.2.1).mono (fun _ _ x => x.elim)).trans (HK7.out.drew.trans (k9.mono (fun _ _ x => .inr x)))
      have sD : X7.drew.cell? ⟨sb, 1, none⟩ = some (.slice (some ja) n jc) ∧ X7.drew.cell? (ja.add k) = some (.pointer (some ⟨b, 0, none⟩)) ∧ X7.drew.cell? ⟨G, 0, none⟩ = some (.int .i64 r.kd) ∧ X7.drew.cell? ⟨G, 1, none⟩ = some (.string (bs r.v)) ∧ X7.drew.cell? ⟨G, 2, none⟩ = some (.int .i64 r.n) ∧ X7.drew.cell? ⟨G, 3, none⟩ = some (.slice ko r.ks.length kc) := by
        have s8 := HSB.out X7.drew _ _ (HM7.out.1.next (Kept.refl _ _).drew)
        exact ⟨s8.2.1, s8.2.2, HGc.out X7.drew HM7.out.2.2⟩
      clear b0 b1 b2 b3 b4 b5 HSP hK7
      go_region_held3 (fun w' => w'.cell? ⟨sb, 1, none⟩ = some (.slice (some ja) n jc) ∧ w'.cell? (ja.add k) = some (.pointer (some ⟨b, 0, none⟩)) ∧ w'.cell? ⟨G, 0, none⟩ = some (.int .i64 r.kd) ∧ w'.cell? ⟨G, 1, none⟩ = some (.string (bs r.v)) ∧ w'.cell? ⟨G, 2, none⟩ = some (.int .i64 r.n) ∧ w'.cell? ⟨G, 3, none⟩ = some (.slice ko r.ks.length kc)) (first | assumption | go_keep) (first | (go_at_call 32; go_must (go_fit AN; intro ee wa hpa; obtain ⟨he, hst, sa1⟩ := HANS.out ee wa hpa; subst he; have HF : Hid (StepPost w X sb mb L ns J k (.returned (.bool true)) wa) := hst; clear hpa hst)))
      all_goals
        go_wp2
        go_ret
        exact HF.out
end Go.Proofs.YtflnjlbafchnaaaGreatDoor

/-
  The laws of cells: each key is found in one map, with what the single map has.
-/
namespace Go.Proofs.YtflnjlbafchnaaaGreatDoor
open Go.RowKit

theorem prV_is (key v : List UInt8) (n : Nat) : ∃ k', prV key v n = .agg #[.string (bs k'), .string (bs v), .int .i64 n] := by
  unfold prV
  split
  · rename_i h
    refine ⟨[], ?_⟩
    rw [h.1, h.2]
    rfl
  · exact ⟨key, rfl⟩
theorem tell_is {v : List UInt8} {n : Nat} (h : n = 0 → v = []) : tellRr 1 v (n : Int) = ⟨if n = 0 then 2 else 1, v, n, []⟩ := by
  unfold tellRr
  by_cases c : n = 0
  · rw [if_pos (by omega), if_pos c, h c, c]
    rfl
  · rw [if_neg (by omega), if_neg c]
set_option maxRecDepth 100000 in
set_option maxHeartbeats 8000000 in
theorem cagrees_any (w X : World) (sb mb : Nat) (L : Lo) (ns : List Ml) (J : Nat → Jb) (V : List UInt8 → List UInt8) (M : List UInt8 → Nat) (t : Nat) (pa : Option Addr) (pc : Nat) (one : List Pr) (h : CM w X sb mb L ns J) (hc : CR (ns.map Ml.ps) J L.ds.length V M t) (hp : OwnP w.heap.size X pa pc one) (ho : OneI one V M) (hL : LW w) (hw : 14 ≤ w.heap.size) :
    Calls Tryz.prog 41 #[.pointer (some ⟨sb, 0, none⟩), .slice pa one.length pc] X fun e X' => e = .returned (.bool true) ∧ Kept Nil X X' := by
  have HM : Hid (CM w X sb mb L ns J) := h
  have HCR : Hid (CR (ns.map Ml.ps) J L.ds.length V M t) := hc
  have HPO : Hid (OwnP w.heap.size X pa pc one) := hp
  have HOI : Hid (OneI one V M) := ho
  have HL : Hid (∀ Y, Kept Nil X Y → LW Y ∧ 14 ≤ Y.heap.size) := fun Y kY => ⟨hL.kept (h.kw.trans kY), Nat.le_trans hw (h.kw.trans kY).size⟩
  obtain ⟨ma, Hma⟩ : ∃ a : Addr, Hid (a = ⟨mb, 0, none⟩) := ⟨_, rfl⟩
  have hns : ns.length = 3 := by have := hc.len; rwa [List.length_map] at this
  have HNS : Hid (ns.length = 3 ∧ (ns.map Ml.ps).length = 3) := ⟨hns, hc.len⟩
  have HSB : Hid (∀ Y, Kept Nil X Y → Y.cell? ⟨sb, 0, none⟩ = some (.slice (some ma) 3 3)) := fun Y kY => by rw [Hma.out]; exact blk_at (HM.out.next kY).sp 0 rfl
  clear h hc hp ho hL hw hns
  go_enter Tryz.func41, Tryz.ntmps41
  go_wp2_with fail
  go_loopw [5] (fun u wr => ∃ x : Nat, x ≤ 3 ∧ u = .int .i64 x ∧ Hid (Kept Nil X wr)) (fun u _ => 3 - (intOf u).toNat)
  case atStart => exact ⟨0, by omega, rfl, Kept.refl _ _⟩
  case round =>
    obtain ⟨x, hx3, rfl, HK⟩ := hrel
    obtain ⟨wo, hwo⟩ : ∃ x : World, x = wr := ⟨_, rfl⟩
    rw [← hwo] at HK ⊢
    clear hwo
    by_cases hlt : x < 3
    · have hxi : (x : Int) < 3 := by omega
      have hext := abc_at hlt
      obtain ⟨ky, HKY⟩ : ∃ k, Hid (k = abc[x]'hlt) := ⟨_, rfl⟩
      rw [← HKY.out] at hext
      have HKA : Hid (ky ∈ abc) := by rw [HKY.out]; exact List.getElem_mem hlt
      have HKL : Hid (ky.length = 1) := abc_len HKA.out
      have hx0 : (0 : Int) ≤ x := by omega
      have hx4 : (x : Int) + 1 ≤ 3 := by omega
      obtain ⟨v, Hv⟩ : ∃ v, Hid (v = V ky) := ⟨_, rfl⟩
      obtain ⟨m, Hm⟩ : ∃ m, Hid (m = M ky) := ⟨_, rfl⟩
      have HFI := HCR.out.find HKA.out
      rw [← Hv.out, ← Hm.out] at HFI
      obtain ⟨g0, hg1, hg3, hfind, hvm⟩ := HFI
      have HVM : Hid (m = 0 → v = []) := hvm
      have s0 := HSB.out wo HK.out
      have FN := cfind_any ky (ns.map Ml.ps) (some ⟨mb, 0, none⟩) 3 wo ((HM.out.next HK.out).mrow HCR.out.ok) (by have := HKL.out; omega) (by rw [HNS.out.2]; omega) (HL.out wo HK.out).2 (HCR.out.movs HKA.out) (HL.out wo HK.out).1
      rw [HNS.out.2, ← Hma.out, hfind] at FN
      unfold FindPost at FN
      simp only at FN
      obtain ⟨k', hk'⟩ := prV_is ky v m
      obtain ⟨z, Hz⟩ : ∃ z, Hid (z = (!decide (v = [] ∧ m = 0))) := ⟨_, rfl⟩
      rw [hk', ← Hz.out] at FN
      have HZ : Hid (z = !decide (m = 0)) := by
        show _ = _
        rw [Hz.out]
        by_cases c : m = 0
        · simp [c, HVM.out c]
        · simp [c]
      have d1 : decide ((g0 : Int) < 1) = false := decide_eq_false (by omega)
      have d2 : decide ((3 : Int) < g0) = false := decide_eq_false (by omega)
      clear hfind hvm hk'
      go_wp2_with fail
      go_fit FN
      rintro ee w1 ⟨rfl, k1⟩
      have K1 : Hid (Kept Nil X w1) := HK.out.trans k1
      clear FN k1 s0
      obtain ⟨W1, hW1⟩ : ∃ W, W = w1.alloc (.cells #[.string (bs k'), .string (bs v), .int .i64 m] 63) := ⟨_, rfl⟩
      obtain ⟨P, HPe⟩ : ∃ A, Hid (A = w1.heap.size) := ⟨_, rfl⟩
      have HPB : Hid (W1.heap[P]? = some (.cells #[.string (bs k'), .string (bs v), .int .i64 m] 63 (0, 0))) := by rw [hW1, HPe.out]; exact blk_new _ _
      have KW1 : Hid (Kept Nil X W1) := by rw [hW1]; exact K1.out.alloc _
      go_upto_region 6 with fail
      rw [← hW1, ← HPe.out]
      clear hW1 HPe
      obtain ⟨rk, Hrk⟩ : ∃ z : Int, Hid (z = if m = 0 then 2 else 1) := ⟨_, rfl⟩
      have AP : Calls Tryz.prog 21 #[.slice pa one.length pc, .agg #[.int .i64 2, .string (bs ky), .string ⟨#[]⟩, .int .i64 0]] W1 (ApPost W1 (apP 2 ky [] 0 one) ⟨rk, v, m, []⟩) := by
        have hq := HPO.out.kept KW1.out
        have := apply_any _ pc pa one ky [] 2 0 W1 (hq.row (pairs_fit HOI.out.ok)) hq.nilc (by have := (pairs_ok HOI.out.ok).1; omega) (by have := HKL.out; unfold maxLen; omega) (by unfold maxLen; simp)
        rw [HOI.out.get HKA.out, ← Hv.out, ← Hm.out, tell_is HVM.out, ← Hrk.out] at this
        exact this
      have HRZ : Hid ((rk == 1) = z) := by
        show _ = _
        rw [Hrk.out, HZ.out]
        by_cases c : m = 0
        · simp [c]
        · simp [c]
      obtain ⟨o2, Ho2⟩ : ∃ l, Hid (l = apP 2 ky [] 0 one) := ⟨_, rfl⟩
      rw [← Ho2.out] at AP
      go_wp2_with fail
      go_fit AP
      rintro ee w2 ⟨a2, c2, ko, kc, rfl, _, _, k2⟩
      unfold rrV
      simp only [List.length_nil]
      obtain ⟨W2, hW2⟩ : ∃ W, W = w2.alloc (.cells #[.int .i64 rk, .string (bs v), .int .i64 m, .slice ko 0 kc] 50) := ⟨_, rfl⟩
      obtain ⟨Q, HQe⟩ : ∃ A, Hid (A = w2.heap.size) := ⟨_, rfl⟩
      have HQB : Hid (W2.heap[Q]? = some (.cells #[.int .i64 rk, .string (bs v), .int .i64 m, .slice ko 0 kc] 50 (0, 0))) := by rw [hW2, HQe.out]; exact blk_new _ _
      have KW2 : Hid (Kept Nil W1 W2) := by rw [hW2]; exact k2.alloc _
      go_upto_region 7 with fail
      rw [← hW2, ← HQe.out]
      clear hW2 HQe k2 AP K1
      have p1 : W2.cell? ⟨P, 1, none⟩ = some (.string (bs v)) := blk_at (KW2.out.block _ _ HPB.out (fun x => x)) 1 rfl
      have p2 : W2.cell? ⟨P, 2, none⟩ = some (.int .i64 m) := blk_at (KW2.out.block _ _ HPB.out (fun x => x)) 2 rfl
      have r0 : W2.cell? ⟨Q, 0, none⟩ = some (.int .i64 rk) := blk_at HQB.out 0 rfl
      have r1 : W2.cell? ⟨Q, 1, none⟩ = some (.string (bs v)) := blk_at HQB.out 1 rfl
      have r2 : W2.cell? ⟨Q, 2, none⟩ = some (.int .i64 m) := blk_at HQB.out 2 rfl
      have e1 := HRZ.out
      have e2 : (z != z) = false := by simp
      have e3 : ((bs v).toList != (bs v).toList) = false := by simp
      have e4 : ((m : Int) != (m : Int)) = false := by simp
      have KX2 : Hid (Kept Nil X W2) := KW1.out.trans KW2.out
      clear HPB HQB
      go_wp2_with fail
      go_loopw [12, 13] (fun a b wr => ∃ (y c0 : Nat), y ≤ 3 ∧ c0 ≤ y ∧ a = .int .i64 c0 ∧ b = .int .i64 y ∧ Hid (c0 = hereN (ns.map Ml.ps) ky y) ∧ Hid (Kept Nil X wr)) (fun _ b _ => 3 - (intOf b).toNat)
      case atStart => exact ⟨0, 0, by omega, by omega, rfl, rfl, rfl, KX2.out⟩
      case round =>
        obtain ⟨y, c0, hy3, hc0, rfl, rfl, HC0, HK3⟩ := hrel
        by_cases hly : y < 3
        · have hyi : (y : Int) < 3 := by omega
          have hy0 : (0 : Int) ≤ y := by omega
          have hyn : y < ns.length := by rw [HNS.out.1]; exact hly
          obtain ⟨mi, Hmi⟩ : ∃ m, Hid (m = ns[y]) := ⟨ns[y], (rfl : ns[y] = ns[y])⟩
          obtain ⟨ao, ac, ps⟩ := mi
          have HMr : Hid (CM w wr sb mb L ns J) := HM.out.next HK3.out
          have t0 := HSB.out wr HK3.out
          have t1 : wr.cell? (ma.add y) = some (.slice ao ps.length ac) := by
            have := HMr.out.map hyn
            rw [← Hmi.out] at this
            rw [Hma.out, addr_addE]
            simpa [mlV] using this
          have HPK : Hid (pairsOk ps = true) := by
            have := HCR.out.ok ns[y].ps (List.mem_map.2 ⟨_, List.getElem_mem hyn, rfl⟩)
            rw [← Hmi.out] at this
            exact this
          have HRW : Hid (OwnP w.heap.size wr ao ac ps) := by
            have := HMr.out.row ns[y] (List.getElem_mem hyn)
            rw [← Hmi.out] at this
            exact this
          obtain ⟨r, Hr⟩ : ∃ r, Hid (r = apR 2 (cKey ky) [] 0 ps) := ⟨_, rfl⟩
          obtain ⟨q2, Hq2⟩ : ∃ l, Hid (l = apP 2 (cKey ky) [] 0 ps) := ⟨_, rfl⟩
          have AP3 : Calls Tryz.prog 21 #[.slice ao ps.length ac, .agg #[.int .i64 2, .string (bs (99 :: ky)), .string ⟨#[]⟩, .int .i64 0]] wr (ApPost wr q2 r) := by
            rw [Hr.out, Hq2.out]
            exact apply_any _ ac ao ps (cKey ky) [] 2 0 wr (HRW.out.row (pairs_fit HPK.out)) HRW.out.nilc (by have := (pairs_ok HPK.out).1; omega) (by have := HKL.out; unfold cKey maxLen; simp; omega) (by unfold maxLen; simp)
          have hkz : (bs ky).size = ky.length := bs_size ky
          have hkl : ky.length ≤ 16 := by have := HKL.out; omega
          have hcat : (⟨#[99]⟩ : ByteArray) ++ bs ky = bs (99 :: ky) := bs_append [99] ky
          have HHA : Hid (hereAt (ns.map Ml.ps) ky y = (decide (4 < r.v.length) && decide (r.v.take 4 = wHere))) := by
            show _ = _
            unfold hereAt
            rw [List.getElem?_map, List.getElem?_eq_getElem hyn, ← Hmi.out, Hr.out]
            rfl
          have HRV : Hid (r.v.length ≤ 64) := by rw [Hr.out]; exact apR_v _ _ _ _ _
          clear Hr
          go_wp2_with fail
          go_fit AP3
          rintro ee w4 ⟨a4, c4, ko4, kc4, rfl, _, _, k4⟩
          unfold rrV
          obtain ⟨W4, hW4⟩ : ∃ W, W = w4.alloc (.cells #[.int .i64 r.kd, .string (bs r.v), .int .i64 r.n, .slice ko4 r.ks.length kc4] 50) := ⟨_, rfl⟩
          obtain ⟨U, HUe⟩ : ∃ A, Hid (A = w4.heap.size) := ⟨_, rfl⟩
          have HUB : Hid (W4.heap[U]? = some (.cells #[.int .i64 r.kd, .string (bs r.v), .int .i64 r.n, .slice ko4 r.ks.length kc4] 50 (0, 0))) := by rw [hW4, HUe.out]; exact blk_new _ _
          have KW4 : Hid (Kept Nil X W4) := by rw [hW4]; exact HK3.out.trans (k4.alloc _)
          go_upto_region 14 with fail
          rw [← hW4, ← HUe.out]
          clear hW4 HUe k4 AP3 t0 t1 hcat hkz hkl
          have u1 : W4.cell? ⟨U, 1, none⟩ = some (.string (bs r.v)) := blk_at HUB.out 1 rfl
          obtain ⟨vv, Hvv⟩ : ∃ l, Hid (l = r.v) := ⟨_, rfl⟩
          rw [← Hvv.out] at u1 HHA HRV
          have hsz : (bs vv).size = vv.length := bs_size vv
          have hv64 : (vv.length : Int) ≤ 64 := by have := HRV.out; omega
          have hext4 : (bs vv).extract 0 4 = bs (vv.take 4) := bs_take vv 4
          clear HUB
          by_cases c4l : 4 < vv.length
          · have d4 : decide ((4 : Int) < vv.length) = true := decide_eq_true (by omega)
            have d5 : (4 : Int) ≤ vv.length := by omega
            by_cases ch : vv.take 4 = wHere
            · have hh : ((bs (vv.take 4)).toList == [104, 101, 114, 101]) = true := by rw [bs_toList, ch]; rfl
              have HN : Hid (c0 + 1 = hereN (ns.map Ml.ps) ky (y + 1)) := by
                show c0 + 1 = hereN (ns.map Ml.ps) ky y + _
                rw [← HC0.out, HHA.out, decide_eq_true c4l, decide_eq_true ch]
                rfl
              clear ch c4l
              go_wp2
              go_roundw
              case rel => exact ⟨y + 1, c0 + 1, by omega, by omega, by go_num, by go_num, HN.out, KW4.out⟩
              case measure => simp [intOf]; omega
            · have hh : ((bs (vv.take 4)).toList == [104, 101, 114, 101]) = false := by
                rw [bs_toList]
                simp only [beq_eq_false_iff_ne, ne_eq]
                exact ch
              have HN : Hid (c0 = hereN (ns.map Ml.ps) ky (y + 1)) := by
                show c0 = hereN (ns.map Ml.ps) ky y + _
                rw [← HC0.out, HHA.out, decide_eq_true c4l, decide_eq_false ch]
                rfl
              clear ch c4l
              go_wp2
              go_roundw
              case rel => exact ⟨y + 1, c0, by omega, by omega, rfl, by go_num, HN.out, KW4.out⟩
              case measure => simp [intOf]; omega
          · have d4 : decide ((4 : Int) < vv.length) = false := decide_eq_false (by omega)
            have HN : Hid (c0 = hereN (ns.map Ml.ps) ky (y + 1)) := by
              show c0 = hereN (ns.map Ml.ps) ky y + _
              rw [← HC0.out, HHA.out, decide_eq_false c4l]
              rfl
            clear c4l
            go_wp2
            go_roundw
            case rel => exact ⟨y + 1, c0, by omega, by omega, rfl, by go_num, HN.out, KW4.out⟩
            case measure => simp [intOf]; omega
        · obtain rfl : y = 3 := by omega
          have hirr : ¬ ((3 : Nat) : Int) < 3 := by omega
          have hc1 : c0 ≤ 1 := by rw [HC0.out]; exact HCR.out.hereN HKA.out
          have d1 : decide ((1 : Int) < c0) = false := decide_eq_false (by omega)
          clear HC0
          go_wp2
          go_roundw
          case rel => exact ⟨x + 1, by omega, by go_num, HK3.out⟩
          case measure => simp [intOf]; omega
    · obtain rfl : x = 3 := by omega
      have hirr : ¬ ((3 : Nat) : Int) < 3 := by omega
      go_wp2
      go_ret
      exact ⟨rfl, HK.out⟩
end Go.Proofs.YtflnjlbafchnaaaGreatDoor
