/-
  kv: Apply.
-/
import Derived.Test.YtflnjlbafchnaaaGreatDoorWKv11
import Derived.Test.YtflnjlbafchnaaaGreatDoorWCmd
namespace Go.Proofs.YtflnjlbafchnaaaGreatDoor
open Go.RowKit

/-- What a command makes of pairs, whatever they are. -/
def apP (kd : Int) (ck val : List UInt8) (m : Int) (ps : List Pr) : List Pr := if (pairsOk ps && isCmd kd ck val m) = true then doP kd ck val m (spotV ck ps) (spotN ck ps) (lowP ck ps) ps else ps
def apR (kd : Int) (ck val : List UInt8) (m : Int) (ps : List Pr) : Rr := if (pairsOk ps && isCmd kd ck val m) = true then doR kd ck val m (spotV ck ps) (spotN ck ps) (lowP ck ps) ps else ⟨5, [], 0, []⟩
theorem pairs_ok {ps : List Pr} (h : pairsOk ps = true) : ps.length ≤ 32 ∧ Srt ps ∧ ∀ p ∈ ps, prOk p = true := by
  unfold pairsOk at h
  simp only [Bool.and_eq_true, decide_eq_true_eq] at h
  exact ⟨h.1, (rise_srt h.2).1, (rise_srt h.2).2.1⟩
theorem prOk_iff {p : Pr} (h : prOk p = true) : p.k ≠ [] ∧ p.k.length ≤ 16 ∧ p.v.length ≤ 64 ∧ 1 ≤ p.n ∧ p.n ≤ 1099511627775 := by
  unfold prOk isCnt at h
  simp at h
  exact ⟨h.1.1.1, h.1.1.2, h.1.2, by omega, by omega⟩
theorem spot_ok {ps : List Pr} (h : pairsOk ps = true) (key : List UInt8) : 0 ≤ spotN key ps ∧ (spotN key ps ≠ 0 ↔ isThere key ps = true) ∧ (spotN key ps ≠ 0 → lowP key ps < ps.length) ∧ (spotV key ps).length ≤ 64 := by
  obtain ⟨_, _, h3⟩ := pairs_ok h
  cases ht : isThere key ps with
  | true =>
    obtain ⟨hl, _, e2, e3⟩ := there_at ht
    obtain ⟨_, _, g1, g2, _⟩ := prOk_iff (h3 _ (List.getElem_mem hl))
    rw [e2, e3]
    exact ⟨by omega, ⟨fun _ => rfl, fun _ => by omega⟩, fun _ => hl, g1⟩
  | false =>
    have e1 : spotV key ps = [] := by unfold spotV; rw [ht]; simp
    have e2 : spotN key ps = 0 := by unfold spotN; rw [ht]; simp
    rw [e1, e2]
    exact ⟨by omega, ⟨fun x => absurd rfl x, fun x => by cases x⟩, fun x => absurd rfl x, by simp⟩
theorem isCmd_val {kd m : Int} {ck val : List UInt8} (h : isCmd kd ck val m = true) : val.length ≤ 64 ∧ 0 ≤ m := by
  unfold isCmd isNum at h
  simp at h
  exact ⟨h.1.1.2, by omega⟩
theorem kvValid_any (B cap : Nat) (ao : Option Addr) (ps : List Pr) (w : World) (h : PairRow B w ao ps) (hl : (ps.length : Int) ≤ 9223372036854775807) :
    Calls Tryz.prog 68 #[.slice ao ps.length cap] w fun e w' => e = .returned (.bool (pairsOk ps)) ∧ Kept Nil w w' := by
  have V := isPairs_any B cap ao ps w h hl
  go_enter Tryz.func68, Tryz.ntmps68
  go_wp2_with fail
  go_fit V
  rintro _ w1 ⟨rfl, k1⟩
  have K1 : Hid (Kept Nil w w1) := k1
  clear k1
  go_wp2
  go_ret
  exact ⟨rfl, K1.out⟩

def ApPost (w : World) (ps : List Pr) (r : Rr) (e : Ending) (w' : World) : Prop := ∃ ao' c' ko kc, e = .returned (.tuple #[.slice ao' ps.length c', rrV r ko kc]) ∧ OwnP w.heap.size w' ao' c' ps ∧ OwnK w.heap.size w' ko kc r.ks ∧ Kept Nil w w'
theorem Kept.under {a w w' : World} {b : Nat} (h : Kept Nil a w) (k : Kept (One b) w w') (hb : a.heap.size ≤ b) : Kept Nil a w' :=
  ⟨k.os.trans h.os, k.tape.trans h.tape, k.output.trans h.output, Nat.le_trans h.size k.size, fun q o ho hx => k.block q o (h.block q o ho hx) (fun e => by
    have h1 := lt_of_block ho
    have h2 : q = b := e
    omega)⟩
theorem OwnP.keptB {B b c : Nat} {w w' : World} {ao : Option Addr} {ps : List Pr} (h : OwnP B w ao c ps) (hk : Kept (One b) w w') (hne : ∀ a, ao = some a → a.block ≠ b) : OwnP B w' ao c ps := by
  refine ⟨h.1, h.2.imp id ?_⟩
  rintro ⟨g, cap, cur, h1, h2, h3, h4⟩
  refine ⟨g, cap, cur, h1, h2, hk.block _ _ h3 (fun e => ?_), h4⟩
  simp only [Value.slice.injEq] at h1
  exact hne _ h1.1 e
theorem ap_store {w W X : World} {pr c' kc : Nat} {ao' ko : Option Addr} {ps : List Pr} {r : Rr} {x0 x1 x2 x3 : Value} (hO : OwnP W.heap.size X ao' c' ps) (hk : OwnK W.heap.size X ko kc r.ks) (KX : Kept Nil W X) (KW : Kept Nil w W) (HN : W.heap[pr]? = some (.cells #[x0, x1, x2, x3] 50 (0, 0))) (hp : w.heap.size ≤ pr) :
    (set4 X pr (.int .i64 r.kd) (.string (bs r.v)) (.int .i64 r.n) (.slice ko r.ks.length kc)).heap[pr]? = some (.cells #[.int .i64 r.kd, .string (bs r.v), .int .i64 r.n, .slice ko r.ks.length kc] 50 (0, 0)) ∧ ApPost w ps r (.returned (.tuple #[.slice ao' ps.length c', rrV r ko kc])) (set4 X pr (.int .i64 r.kd) (.string (bs r.v)) (.int .i64 r.n) (.slice ko r.ks.length kc)) := by
  have hlt : pr < W.heap.size := lt_of_block HN
  refine ⟨blk_set (blk_set (blk_set (blk_set (KX.block _ _ HN (fun x => x.elim)) 0 _) 1 _) 2 _) 3 _, ao', c', ko, kc, rfl, ?_, ?_, ?_⟩
  · exact own_mono (ownsRow_setCell_below (ownsRow_setCell_below (ownsRow_setCell_below (ownsRow_setCell_below hO hlt _) hlt _) hlt _) hlt _) KW.size
  · exact own_mono (ownsRow_setCell_below (ownsRow_setCell_below (ownsRow_setCell_below (ownsRow_setCell_below hk hlt _) hlt _) hlt _) hlt _) KW.size
  · exact (((((KW.trans KX).setNew (p := ⟨pr, 0, none⟩) hp _).setNew (p := ⟨pr, 1, none⟩) hp _).setNew (p := ⟨pr, 2, none⟩) hp _).setNew (p := ⟨pr, 3, none⟩) hp _)
theorem ApPost.drew {w w' : World} {ps : List Pr} {r : Rr} {e : Ending} (h : ApPost w ps r e w') : ApPost w ps r e w'.drew := by
  obtain ⟨a, b, c, d, h1, h2, h3, h4⟩ := h
  exact ⟨a, b, c, d, h1, h2.kept (Kept.refl _ _).drew, h3.kept (Kept.refl _ _).drew, h4.drew⟩
set_option maxRecDepth 100000 in
set_option maxHeartbeats 4000000 in
theorem apply_any (B c : Nat) (ao : Option Addr) (ps : List Pr) (ck val : List UInt8) (kd m : Int) (w : World) (h : PairRow B w ao ps) (hn : ao = none → ps = [] ∧ c = 0) (hl : (ps.length : Int) ≤ 3518437208780) (hck : ck.length ≤ maxLen) (hval : val.length ≤ maxLen) :
    Calls Tryz.prog 21 #[.slice ao ps.length c, .agg #[.int .i64 kd, .string (bs ck), .string (bs val), .int .i64 m]] w (ApPost w (apP kd ck val m ps) (apR kd ck val m ps)) := by
  obtain ⟨W, hW⟩ : ∃ W, W = (w.alloc (.cells #[.int .i64 kd, .string (bs ck), .string (bs val), .int .i64 m] 31)).alloc (.cells #[.int .i64 0, .string ⟨#[]⟩, .int .i64 0, .slice none 0 0] 50) := ⟨_, rfl⟩
  have KW : Hid (Kept Nil w W) := by rw [hW]; exact ((Kept.refl _ _).alloc _).alloc _
  have HC : Hid (W.heap[w.heap.size]? = some (.cells #[.int .i64 kd, .string (bs ck), .string (bs val), .int .i64 m] 31 (0, 0))) := by rw [hW]; exact blk_past (blk_new _ _) _
  have HN : Hid (W.heap[w.heap.size + 1]? = some (.cells #[.int .i64 0, .string ⟨#[]⟩, .int .i64 0, .slice none 0 0] 50 (0, 0))) := by
    rw [hW]
    have := blk_new (w.alloc (.cells #[.int .i64 kd, .string (bs ck), .string (bs val), .int .i64 m] 31)) (.cells #[.int .i64 0, .string ⟨#[]⟩, .int .i64 0, .slice none 0 0] 50)
    show _ = _
    simpa using this
  have HR : Hid (PairRow B W ao ps) := h.nil KW.out
  have HFit : Hid (Fit ps) := h.fit
  have HPW : Hid (w.heap.size ≤ w.heap.size + 1) := Nat.le_succ _
  obtain ⟨t1, HT1⟩ : ∃ t1, Hid (t1 = pairsOk ps) := ⟨_, rfl⟩
  obtain ⟨t2, HT2⟩ : ∃ t2, Hid (t2 = isCmd kd ck val m) := ⟨_, rfl⟩
  obtain ⟨PP, HPP⟩ : ∃ PP, Hid (PP = apP kd ck val m ps) := ⟨_, rfl⟩
  obtain ⟨RR, HRR⟩ : ∃ RR, Hid (RR = apR kd ck val m ps) := ⟨_, rfl⟩
  rw [← HPP.out, ← HRR.out]
  have HPR : Hid (PP = (if (t1 && t2) = true then doP kd ck val m (spotV ck ps) (spotN ck ps) (lowP ck ps) ps else ps) ∧ RR = (if (t1 && t2) = true then doR kd ck val m (spotV ck ps) (spotN ck ps) (lowP ck ps) ps else ⟨5, [], 0, []⟩)) := ⟨by rw [HPP.out, HT1.out, HT2.out]; rfl, by rw [HRR.out, HT1.out, HT2.out]; rfl⟩
  have CL := cloneP_any B c ao ps W HR.out hn hl
  go_enter Tryz.func21, Tryz.ntmps21
  go_wp2_with fail
  rw [← hW]
  obtain ⟨C, HCe⟩ : ∃ C, Hid (C = w.heap.size) := ⟨_, rfl⟩
  obtain ⟨pr, HPe⟩ : ∃ pr, Hid (pr = w.heap.size + 1) := ⟨_, rfl⟩
  rw [← HPe.out] at HN HPW ⊢
  rw [← HCe.out] at HC ⊢
  clear hW h
  go_fit CL
  rintro _ w1 ⟨ao1, c1, rfl, o1, k1⟩
  clear CL
  obtain ⟨b, HBe⟩ : ∃ b, Hid (b = w1.heap.size) := ⟨_, rfl⟩
  obtain ⟨X, hX⟩ : ∃ X, X = w1.alloc (.cells #[.string ⟨#[]⟩, .string ⟨#[]⟩, .int .i64 0, .slice ao1 ps.length c1, .int .i64 0] 121) := ⟨_, rfl⟩
  have KX : Hid (Kept Nil W X) := by rw [hX]; exact k1.alloc _
  have HO : Hid (OwnP W.heap.size X ao1 c1 ps) := by rw [hX]; exact o1.kept ((Kept.refl _ _).alloc _)
  have HB : Hid (SpotAt X b [] [] 0 ao1 ps.length c1 0) := by rw [hX, HBe.out]; exact blk_new _ _
  have HWB : Hid (W.heap.size ≤ b) := by show _ ≤ _; rw [HBe.out]; exact k1.size
  clear o1 k1
  have VA := kvValid_any B c ao ps X (HR.out.nil KX.out) (by omega)
  rw [← HT1.out] at VA
  go_wp2_with fail
  rw [← hX, ← HBe.out]
  clear hX
  go_fit VA
  rintro _ w2 ⟨rfl, k2⟩
  have Kw2 : Hid (Kept Nil W w2) := KX.out.trans k2
  have HOw2 : Hid (OwnP W.heap.size w2 ao1 c1 ps) := HO.out.kept k2
  have HBw2 : Hid (SpotAt w2 b [] [] 0 ao1 ps.length c1 0) := k2.block _ _ HB.out (fun x => x.elim)
  clear k2 VA HO HB KX
  have CM := isCommand_any kd m ck val w2 hck hval
  rw [← HT2.out] at CM
  have d0 : w2.cell? ⟨C, 0, none⟩ = some (.int .i64 kd) := blk_at (Kw2.out.block _ _ HC.out (fun x => x.elim)) 0 rfl
  have d1 : w2.cell? ⟨C, 1, none⟩ = some (.string (bs ck)) := blk_at (Kw2.out.block _ _ HC.out (fun x => x.elim)) 1 rfl
  have d2 : w2.cell? ⟨C, 2, none⟩ = some (.string (bs val)) := blk_at (Kw2.out.block _ _ HC.out (fun x => x.elim)) 2 rfl
  have d3 : w2.cell? ⟨C, 3, none⟩ = some (.int .i64 m) := blk_at (Kw2.out.block _ _ HC.out (fun x => x.elim)) 3 rfl
  cases t1 with
  | false =>
    have HE : Hid (ps = PP ∧ ⟨5, [], 0, []⟩ = RR) := ⟨by rw [HPR.out.1]; rfl, by rw [HPR.out.2]; rfl⟩
    obtain ⟨rfl, rfl⟩ := HE.out
    have HN9 : Hid (w2.heap[pr]? = some (.cells #[.int .i64 0, .string ⟨#[]⟩, .int .i64 0, .slice none 0 0] 50 (0, 0))) := Kw2.out.block _ _ HN.out (fun x => x.elim)
    have r0 : w2.cell? ⟨pr, 0, none⟩ = some (.int .i64 0) := blk_at HN9.out 0 rfl
    have r1 : w2.cell? ⟨pr, 1, none⟩ = some (.string ⟨#[]⟩) := blk_at HN9.out 1 rfl
    have r2 : w2.cell? ⟨pr, 2, none⟩ = some (.int .i64 0) := blk_at HN9.out 2 rfl
    have r3 : w2.cell? ⟨pr, 3, none⟩ = some (.slice none 0 0) := blk_at HN9.out 3 rfl
    have z0 : w2.frozen? ⟨pr, 0, none⟩ = false := blk_free HN9.out 0
    have z1 : w2.frozen? ⟨pr, 1, none⟩ = false := blk_free HN9.out 1
    have z2 : w2.frozen? ⟨pr, 2, none⟩ = false := blk_free HN9.out 2
    have z3 : w2.frozen? ⟨pr, 3, none⟩ = false := blk_free HN9.out 3
    have b3 : w2.cell? ⟨b, 3, none⟩ = some (.slice ao1 ps.length c1) := blk_at HBw2.out 3 rfl
    obtain ⟨V, hV⟩ : ∃ V, V = (((w2.setCell ⟨pr, 0, none⟩ (.int .i64 5)).setCell ⟨pr, 1, none⟩ (.string ⟨#[]⟩)).setCell ⟨pr, 2, none⟩ (.int .i64 0)).setCell ⟨pr, 3, none⟩ (.slice none 0 0) := ⟨_, rfl⟩
    have HV : Hid (V.heap[pr]? = some (.cells #[.int .i64 5, .string ⟨#[]⟩, .int .i64 0, .slice none 0 0] 50 (0, 0)) ∧ ApPost w ps ⟨5, [], 0, []⟩ (.returned (.tuple #[.slice ao1 ps.length c1, rrV ⟨5, [], 0, []⟩ none 0])) V) := by
      rw [hV]
      exact ap_store (r := ⟨5, [], 0, []⟩) HOw2.out (OwnK.nil _ _) Kw2.out KW.out HN.out HPW.out
    go_wp2
    rw [← hV]
    clear hV r0 r1 r2 r3
    have j0 := blk_at HV.out.1 0 rfl
    have j1 := blk_at HV.out.1 1 rfl
    have j2 := blk_at HV.out.1 2 rfl
    have j3 := blk_at HV.out.1 3 rfl
    exact bodyPost_ret (v := .tuple #[.slice ao1 ps.length c1, rrV ⟨5, [], 0, []⟩ none 0]) (by simp [results, Tryz.results21, go_sem, j0, j1, j2, j3, rrV, bs]) rfl HV.out.2
  | true =>
    go_wp2_with fail
    go_fit CM
    rintro _ w3 ⟨rfl, k3⟩
    have Kw3 : Hid (Kept Nil W w3) := Kw2.out.trans k3
    have HOw3 : Hid (OwnP W.heap.size w3 ao1 c1 ps) := HOw2.out.kept k3
    have HBw3 : Hid (SpotAt w3 b [] [] 0 ao1 ps.length c1 0) := k3.block _ _ HBw2.out (fun x => x.elim)
    clear k3 CM d0 d1 d2 d3 Kw2 HOw2 HBw2
    cases t2 with
    | false =>
      have HE : Hid (ps = PP ∧ ⟨5, [], 0, []⟩ = RR) := ⟨by rw [HPR.out.1]; rfl, by rw [HPR.out.2]; rfl⟩
      obtain ⟨rfl, rfl⟩ := HE.out
      have HN9 : Hid (w3.heap[pr]? = some (.cells #[.int .i64 0, .string ⟨#[]⟩, .int .i64 0, .slice none 0 0] 50 (0, 0))) := Kw3.out.block _ _ HN.out (fun x => x.elim)
      have r0 : w3.cell? ⟨pr, 0, none⟩ = some (.int .i64 0) := blk_at HN9.out 0 rfl
      have r1 : w3.cell? ⟨pr, 1, none⟩ = some (.string ⟨#[]⟩) := blk_at HN9.out 1 rfl
      have r2 : w3.cell? ⟨pr, 2, none⟩ = some (.int .i64 0) := blk_at HN9.out 2 rfl
      have r3 : w3.cell? ⟨pr, 3, none⟩ = some (.slice none 0 0) := blk_at HN9.out 3 rfl
      have z0 : w3.frozen? ⟨pr, 0, none⟩ = false := blk_free HN9.out 0
      have z1 : w3.frozen? ⟨pr, 1, none⟩ = false := blk_free HN9.out 1
      have z2 : w3.frozen? ⟨pr, 2, none⟩ = false := blk_free HN9.out 2
      have z3 : w3.frozen? ⟨pr, 3, none⟩ = false := blk_free HN9.out 3
      have b3 : w3.cell? ⟨b, 3, none⟩ = some (.slice ao1 ps.length c1) := blk_at HBw3.out 3 rfl
      obtain ⟨V, hV⟩ : ∃ V, V = (((w3.setCell ⟨pr, 0, none⟩ (.int .i64 5)).setCell ⟨pr, 1, none⟩ (.string ⟨#[]⟩)).setCell ⟨pr, 2, none⟩ (.int .i64 0)).setCell ⟨pr, 3, none⟩ (.slice none 0 0) := ⟨_, rfl⟩
      have HV : Hid (V.heap[pr]? = some (.cells #[.int .i64 5, .string ⟨#[]⟩, .int .i64 0, .slice none 0 0] 50 (0, 0)) ∧ ApPost w ps ⟨5, [], 0, []⟩ (.returned (.tuple #[.slice ao1 ps.length c1, rrV ⟨5, [], 0, []⟩ none 0])) V) := by
        rw [hV]
        exact ap_store (r := ⟨5, [], 0, []⟩) HOw3.out (OwnK.nil _ _) Kw3.out KW.out HN.out HPW.out
      go_wp2
      rw [← hV]
      clear hV r0 r1 r2 r3
      have j0 := blk_at HV.out.1 0 rfl
      have j1 := blk_at HV.out.1 1 rfl
      have j2 := blk_at HV.out.1 2 rfl
      have j3 := blk_at HV.out.1 3 rfl
      exact bodyPost_ret (v := .tuple #[.slice ao1 ps.length c1, rrV ⟨5, [], 0, []⟩ none 0]) (by simp [results, Tryz.results21, go_sem, j0, j1, j2, j3, rrV, bs]) rfl HV.out.2
    | true =>
      obtain ⟨hl32, hsrt, _⟩ := pairs_ok HT1.out.symm
      obtain ⟨s1, s2, s3, s4⟩ := spot_ok HT1.out.symm ck
      obtain ⟨v1, v2⟩ := isCmd_val HT2.out.symm
      have HE : Hid (PP = doP kd ck val m (spotV ck ps) (spotN ck ps) (lowP ck ps) ps ∧ RR = doR kd ck val m (spotV ck ps) (spotN ck ps) (lowP ck ps) ps) := ⟨by rw [HPR.out.1]; rfl, by rw [HPR.out.2]; rfl⟩
      have FI := find_any b c1 ao1 ps ck w3 (HOw3.out.row HFit.out) hsrt hl32 HBw3.out (HOw3.out.apart HBw3.out)
      have d1 : w3.cell? ⟨C, 1, none⟩ = some (.string (bs ck)) := blk_at (Kw3.out.block _ _ HC.out (fun x => x.elim)) 1 rfl
      go_wp2_with fail
      go_fit FI
      rintro _ w4 ⟨rfl, hb4, k4⟩
      have HB4 : Hid (SpotAt w4 b ck (spotV ck ps) (spotN ck ps) ao1 ps.length c1 (lowP ck ps)) := hb4
      have K4 : Hid (Kept Nil W w4) := Kw3.out.under k4 HWB.out
      have HO4 : Hid (OwnP W.heap.size w4 ao1 c1 ps) := HOw3.out.keptB k4 (HOw3.out.apart HBw3.out)
      clear hb4 k4 FI d1
      have DO := doS_any W b c1 (lowP ck ps) ao1 ps ck val ck (spotV ck ps) kd m (spotN ck ps) w4 HB4.out HO4.out K4.out HWB.out hl32 s1 (lowP_le ck ps) s3 HFit.out (by omega)
      rw [← HE.out.1, ← HE.out.2] at DO
      have d0 : w4.cell? ⟨C, 0, none⟩ = some (.int .i64 kd) := blk_at (K4.out.block _ _ HC.out (fun x => x.elim)) 0 rfl
      have d1 : w4.cell? ⟨C, 1, none⟩ = some (.string (bs ck)) := blk_at (K4.out.block _ _ HC.out (fun x => x.elim)) 1 rfl
      have d2 : w4.cell? ⟨C, 2, none⟩ = some (.string (bs val)) := blk_at (K4.out.block _ _ HC.out (fun x => x.elim)) 2 rfl
      have d3 : w4.cell? ⟨C, 3, none⟩ = some (.int .i64 m) := blk_at (K4.out.block _ _ HC.out (fun x => x.elim)) 3 rfl
      clear HE HPR HPP HRR hsrt s1 s2 s3 s4 v1 v2
      go_wp2_with fail
      go_fit DO
      rintro _ w5 ⟨ao', c', ko, kc, rfl, h2, h3, h4, h5⟩
      obtain ⟨rk, rv, rn, rks⟩ := RR
      have HB5 : Hid (SpotAt w5 b ck (spotV ck ps) (spotN ck ps) ao' PP.length c' (lowP ck ps)) := h2
      have HO5 : Hid (OwnP W.heap.size w5 ao' c' PP) := h3
      have HK5 : Hid (OwnK W.heap.size w5 ko kc rks) := h4
      have K5 : Hid (Kept Nil W w5) := h5.old
      clear h2 h3 h4 h5 DO d0 d1 d2 d3 HB4 HO4 K4
      unfold rrV
      dsimp only
      obtain ⟨X, hX⟩ : ∃ X, X = w5.alloc (.cells #[.int .i64 rk, .string (bs rv), .int .i64 rn, .slice ko rks.length kc] 50) := ⟨_, rfl⟩
      obtain ⟨rb, HRB⟩ : ∃ rb, Hid (rb = w5.heap.size) := ⟨_, rfl⟩
      have HX : Hid (X.heap[rb]? = some (.cells #[.int .i64 rk, .string (bs rv), .int .i64 rn, .slice ko rks.length kc] 50 (0, 0))) := by rw [hX, HRB.out]; exact blk_new _ _
      have HB6 : Hid (SpotAt X b ck (spotV ck ps) (spotN ck ps) ao' PP.length c' (lowP ck ps)) := by rw [hX]; exact blk_past HB5.out _
      have HO6 : Hid (OwnP W.heap.size X ao' c' PP) := by rw [hX]; exact HO5.out.kept ((Kept.refl _ _).alloc _)
      have HK6 : Hid (OwnK W.heap.size X ko kc rks) := by rw [hX]; exact HK5.out.kept ((Kept.refl _ _).alloc _)
      have K6 : Hid (Kept Nil W X) := by rw [hX]; exact K5.out.alloc _
      have HN9 : Hid (X.heap[pr]? = some (.cells #[.int .i64 0, .string ⟨#[]⟩, .int .i64 0, .slice none 0 0] 50 (0, 0))) := by rw [hX]; exact blk_past (K5.out.block _ _ HN.out (fun x => x.elim)) _
      go_wp2_with fail
      rw [← hX, ← HRB.out]
      clear hX HB5 HO5 HK5 K5
      have r0 : X.cell? ⟨pr, 0, none⟩ = some (.int .i64 0) := blk_at HN9.out 0 rfl
      have r1 : X.cell? ⟨pr, 1, none⟩ = some (.string ⟨#[]⟩) := blk_at HN9.out 1 rfl
      have r2 : X.cell? ⟨pr, 2, none⟩ = some (.int .i64 0) := blk_at HN9.out 2 rfl
      have r3 : X.cell? ⟨pr, 3, none⟩ = some (.slice none 0 0) := blk_at HN9.out 3 rfl
      have z0 : X.frozen? ⟨pr, 0, none⟩ = false := blk_free HN9.out 0
      have z1 : X.frozen? ⟨pr, 1, none⟩ = false := blk_free HN9.out 1
      have z2 : X.frozen? ⟨pr, 2, none⟩ = false := blk_free HN9.out 2
      have z3 : X.frozen? ⟨pr, 3, none⟩ = false := blk_free HN9.out 3
      have x0 : X.cell? ⟨rb, 0, none⟩ = some (.int .i64 rk) := blk_at HX.out 0 rfl
      have x1 : X.cell? ⟨rb, 1, none⟩ = some (.string (bs rv)) := blk_at HX.out 1 rfl
      have x2 : X.cell? ⟨rb, 2, none⟩ = some (.int .i64 rn) := blk_at HX.out 2 rfl
      have x3 : X.cell? ⟨rb, 3, none⟩ = some (.slice ko rks.length kc) := blk_at HX.out 3 rfl
      have b3 : X.cell? ⟨b, 3, none⟩ = some (.slice ao' PP.length c') := blk_at HB6.out 3 rfl
      obtain ⟨V, hV⟩ : ∃ V, V = ((((X.setCell ⟨pr, 0, none⟩ (.int .i64 rk)).setCell ⟨pr, 1, none⟩ (.string (bs rv))).setCell ⟨pr, 2, none⟩ (.int .i64 rn)).setCell ⟨pr, 3, none⟩ (.slice ko rks.length kc)).drew := ⟨_, rfl⟩
      have HV : Hid (V.heap[pr]? = some (.cells #[.int .i64 rk, .string (bs rv), .int .i64 rn, .slice ko rks.length kc] 50 (0, 0)) ∧ ApPost w PP ⟨rk, rv, rn, rks⟩ (.returned (.tuple #[.slice ao' PP.length c', rrV ⟨rk, rv, rn, rks⟩ ko kc])) V) := by
        rw [hV]
        have := ap_store (r := ⟨rk, rv, rn, rks⟩) HO6.out HK6.out K6.out KW.out HN.out HPW.out
        exact ⟨this.1, this.2.drew⟩
      go_region
      all_goals
        go_wp2
        rw [← hV]
        clear hV r0 r1 r2 r3
        have j0 := blk_at HV.out.1 0 rfl
        have j1 := blk_at HV.out.1 1 rfl
        have j2 := blk_at HV.out.1 2 rfl
        have j3 := blk_at HV.out.1 3 rfl
        exact bodyPost_ret (v := .tuple #[.slice ao' PP.length c', rrV ⟨rk, rv, rn, rks⟩ ko kc]) (by simp [results, Tryz.results21, go_sem, j0, j1, j2, j3, rrV]) rfl HV.out.2

end Go.Proofs.YtflnjlbafchnaaaGreatDoor
