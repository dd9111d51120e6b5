/-
  SessionExact: the document's asked.
-/
import Derived.Test.YtblmmbghnkplkaaWSx4
import Derived.Deep.DeepCutAuto
import Derived.Deep.DeepFit
import Derived.Deep.CutBlock
namespace Go.Proofs.Ytblmmbghnkplkaa
open Go.RowKit

/-- A client's request on its session. -/
def askT (ps : List Pr) (ss : List Ss) (k : Nat) (s : Ss) (tm nu kd : Int) (key val : List UInt8) (m : Int) : List Pr × List Ss × Rr :=
  if nu < s.ls ∨ nu < 1 then (ps, ss.set k { s with sn := tm }, rr0 6)
  else if s.ls + 1 < nu then (ps, ss.set k { s with sn := tm }, rr0 7)
  else if s.ls < nu then (apP kd key val m ps, ss.set k { s with sn := tm, ls := nu, kd := (apR kd key val m ps).kd, val := (apR kd key val m ps).v, ver := (apR kd key val m ps).n, ks := (apR kd key val m ps).ks }, apR kd key val m ps)
  else (ps, ss.set k { s with sn := tm }, ⟨s.kd, s.val, s.ver, s.ks⟩)
theorem askT_is {ps : List Pr} {ss : List Ss} {k : Nat} {tm cl nu kd m : Int} {key val : List UInt8} (hs : SrtS ss) (hk : k < ss.length) (hc : ss[k].cl = cl) : servT ps ss tm cl nu kd key val m = askT ps ss k ss[k] tm nu kd key val m := by
  obtain ⟨h1, h2⟩ := find_low hs hk hc
  unfold servT askT
  rw [h1, h2, List.getElem?_eq_getElem hk]
  simp
theorem apR_v {kd m : Int} {key val : List UInt8} {ps : List Pr} : (apR kd key val m ps).v.length ≤ maxLen := by
  unfold apR
  split
  · rename_i hb
    simp only [Bool.and_eq_true] at hb
    have h64 := (spot_ok hb.1 key).2.2.2
    have hm : (64 : Nat) ≤ maxLen := by unfold maxLen; omega
    have hput : ∀ (x : List UInt8) (n : Int) (l : Nat), (putRr x n l).v.length ≤ maxLen := fun x n l => by unfold putRr; split <;> simp
    have htell : ∀ (q n : Int), (tellRr q (spotV key ps) n).v.length ≤ maxLen := fun q n => by
      unfold tellRr
      split
      · simp
      · exact Nat.le_trans h64 hm
    unfold doR
    repeat' split
    · exact hput _ _ _
    · exact htell _ _
    · unfold dropRr; split <;> simp
    · unfold swapRr
      split
      · exact hput _ _ _
      · exact htell _ _
    · exact hput _ _ _
    · simp
  · simp

set_option maxRecDepth 100000 in
set_option maxHeartbeats 8000000 in
theorem refAsked_any (G : Nat → Prop) (cp cs k : Nat) (tm cl nu kd m tq : Int) (key val : List UInt8) (ap sa : Option Addr) (ps : List Pr) (es : List Se) (w : World) (hp : PIn G w ap cp ps) (hs : SIn G w sa cs es) (hG : ∀ k, w.heap.size ≤ k → G k) (hk : k < es.length) (hl : es.length ≤ 8) (hb : ∀ e ∈ es, 0 ≤ e.s.ls ∧ e.s.ls ≤ 1099511627775) (hlp : (ps.length : Int) ≤ 3518437208780) (hkey : key.length ≤ maxLen) (hval : val.length ≤ maxLen) :
    Calls Try.prog 92 #[.agg #[.slice ap ps.length cp, .slice sa es.length cs, .int .i64 tm], .int .i64 k, .agg #[.int .i64 cl, .int .i64 nu, .int .i64 kd, .string (bs key), .string (bs val), .int .i64 m, .int .i64 tq]] w (RunPost G w ((askT ps (es.map Se.s) k (es[k]'hk).s tm nu kd key val m).1, (askT ps (es.map Se.s) k (es[k]'hk).s tm nu kd key val m).2.1, tm, (askT ps (es.map Se.s) k (es[k]'hk).s tm nu kd key val m).2.2)) := by
  obtain ⟨i0, hi, hz0, hz1, hz2⟩ := info_parts Try.infoSe
  obtain ⟨ss, HSS⟩ : ∃ ss, Hid (ss = es.map Se.s) := ⟨_, rfl⟩
  obtain ⟨y, HY⟩ : ∃ y : Se, Hid (y = es[k]'hk) := ⟨es[k]'hk, (rfl : es[k]'hk = es[k]'hk)⟩
  rw [← HSS.out, ← HY.out]
  obtain ⟨R, HR⟩ : ∃ R, Hid (R = askT ps ss k y.s tm nu kd key val m) := ⟨_, rfl⟩
  rw [← HR.out]
  obtain ⟨W, hW⟩ : ∃ W, W = (((w.alloc (.cells #[.slice ap ps.length cp, .slice sa es.length cs, .int .i64 tm] 70)).alloc (.cells #[.int .i64 cl, .int .i64 nu, .int .i64 kd, .string (bs key), .string (bs val), .int .i64 m, .int .i64 tq] 75)).alloc (.cells #[.slice none 0 0, .slice none 0 0, .int .i64 0] 70)).alloc (.cells #[.int .i64 0, .string ⟨#[]⟩, .int .i64 0, .slice none 0 0] 55) := ⟨_, rfl⟩
  obtain ⟨Tb, HTe⟩ : ∃ Tb, Hid (Tb = w.heap.size) := ⟨_, rfl⟩
  obtain ⟨Q, HQe⟩ : ∃ Q, Hid (Q = w.heap.size + 1) := ⟨_, rfl⟩
  obtain ⟨A, HAe⟩ : ∃ A, Hid (A = w.heap.size + 1 + 1) := ⟨_, rfl⟩
  obtain ⟨D, HDe⟩ : ∃ D, Hid (D = w.heap.size + 1 + 1 + 1) := ⟨_, rfl⟩
  have KW : Hid (Kept Nil w W) := by rw [hW]; exact ((((Kept.refl _ _).alloc _).alloc _).alloc _).alloc _
  have hq1 : (w.alloc (.cells #[.slice ap ps.length cp, .slice sa es.length cs, .int .i64 tm] 70)).heap.size = w.heap.size + 1 := by simp
  have hq2 : ((w.alloc (.cells #[.slice ap ps.length cp, .slice sa es.length cs, .int .i64 tm] 70)).alloc (.cells #[.int .i64 cl, .int .i64 nu, .int .i64 kd, .string (bs key), .string (bs val), .int .i64 m, .int .i64 tq] 75)).heap.size = w.heap.size + 1 + 1 := by simp
  have hq3 : (((w.alloc (.cells #[.slice ap ps.length cp, .slice sa es.length cs, .int .i64 tm] 70)).alloc (.cells #[.int .i64 cl, .int .i64 nu, .int .i64 kd, .string (bs key), .string (bs val), .int .i64 m, .int .i64 tq] 75)).alloc (.cells #[.slice none 0 0, .slice none 0 0, .int .i64 0] 70)).heap.size = w.heap.size + 1 + 1 + 1 := by simp
  have HWs : Hid (W.heap.size = w.heap.size + 1 + 1 + 1 + 1) := by rw [hW]; show _ = _; simp
  have HT : Hid (W.heap[Tb]? = some (.cells #[.slice ap ps.length cp, .slice sa es.length cs, .int .i64 tm] 70 (0, 0))) := by rw [hW, HTe.out]; exact blk_past (blk_past (blk_past (blk_new _ _) _) _) _
  have HQ : Hid (W.heap[Q]? = some (.cells #[.int .i64 cl, .int .i64 nu, .int .i64 kd, .string (bs key), .string (bs val), .int .i64 m, .int .i64 tq] 75 (0, 0))) := by rw [hW, HQe.out, ← hq1]; exact blk_past (blk_past (blk_new _ _) _) _
  have HZA : Hid (W.heap[A]? = some (.cells #[.slice none 0 0, .slice none 0 0, .int .i64 0] 70 (0, 0))) := by rw [hW, HAe.out, ← hq2]; exact blk_past (blk_new _ _) _
  have HZD : Hid (W.heap[D]? = some (.cells #[.int .i64 0, .string ⟨#[]⟩, .int .i64 0, .slice none 0 0] 55 (0, 0))) := by rw [hW, HDe.out, ← hq3]; exact blk_new _ _
  have HN : Hid (A ≠ D ∧ w.heap.size ≤ A ∧ w.heap.size ≤ D ∧ Tb ≠ A ∧ Tb ≠ D) := by
    have h1 := HTe.out
    have h2 := HAe.out
    have h3 := HDe.out
    exact ⟨by omega, by omega, by omega, by omega, by omega⟩
  clear hq1 hq2 hq3
  have HSr : Hid (SIn G W sa cs es) := hs.kept KW.out
  have hbk := hb _ (List.getElem_mem hk)
  rw [← HY.out] at hbk
  have HBK : Hid (0 ≤ y.s.ls ∧ y.s.ls ≤ 1099511627775) := hbk
  clear hbk hb
  go_enter Try.func92, Try.ntmps92
  go_upto_region 1 with fail
  rw [← hW, ← HDe.out, ← HAe.out, ← HQe.out, ← HTe.out]
  clear hW
  have t1 : W.cell? ⟨Tb, 1, none⟩ = some (.slice sa es.length cs) := blk_at HT.out 1 rfl
  have HSc : Hid (Src Try.prog 7 68 (.slice sa es.length cs) es.length (seCells es) W) := HSr.out.row.src
  have HLL : Hid (0 + es.length ≤ maxLen ∧ (0 + es.length) * 80 ≤ 140737488355328) := by constructor <;> (try unfold maxLen) <;> omega
  go_upto_region 3 with (first | (at_builtin; go_must (refine wpList_append_src _ rfl _ _ 68 68 rfl W.heap.size 121 i0 (.agg #[.int .i64 0, .int .i64 0, .int .i64 0, .string ⟨#[]⟩, .int .i64 0, .slice none 0 0, .int .i64 0]) 7 80 Try.underlying68 hi hz0 hz1 hz2 rfl (.slice none 0 0) 0 [] rfl (World.ownsRow_nil _ _ _ _) (.slice sa es.length cs) es.length (seCells es) rfl HSc.out HLL.out.1 HLL.out.2 (Nat.le_refl _) ?_); intro al cl1 w1 ho' hg'; rw [Nat.zero_add] at ho'; have HOl : Hid (OwnE W.heap.size w1 al cl1 es) := ho'; have K1 : Hid (Kept Nil W w1) := (Kept.refl _ _).grown hg' (fun k hk => by simp [Value.ownBlock] at hk); rw [Nat.zero_add]; clear ho' hg'))
  clear t1 HSc HLL
  obtain ⟨g, gl, rfl, hWg, hgb, _⟩ := HOl.out.block (fun e => by have h := HOl.out; rw [e] at h; rw [h.noneE.1] at hk; simp at hk)
  obtain ⟨d0, d1, d2, d3, d4, d5, d6⟩ := HOl.out.at7 hk
  rw [← HY.out] at d0 d1 d2 d3 d4 d5 d6
  have hki : (k : Int) < es.length := by omega
  obtain ⟨S, HSe⟩ : ∃ S, Hid (S = w1.heap.size) := ⟨_, rfl⟩
  obtain ⟨X1, hX1⟩ : ∃ X1, X1 = w1.alloc (.cells #[.int .i64 y.s.cl, .int .i64 y.s.ls, .int .i64 y.s.kd, .string (bs y.s.val), .int .i64 y.s.ver, .slice y.ao y.s.ks.length y.c, .int .i64 y.s.sn] 121) := ⟨_, rfl⟩
  have HX1 : Hid (X1.heap[S]? = some (.cells #[.int .i64 y.s.cl, .int .i64 y.s.ls, .int .i64 y.s.kd, .string (bs y.s.val), .int .i64 y.s.ver, .slice y.ao y.s.ks.length y.c, .int .i64 y.s.sn] 121 (0, 0))) := by rw [hX1, HSe.out]; exact blk_new _ _
  have KX1 : Hid (Kept Nil w1 X1) := by rw [hX1]; exact (Kept.refl _ _).alloc _
  have HgS : Hid (W.heap.size ≤ g ∧ g < S) := ⟨hWg, by rw [HSe.out]; exact lt_of_block hgb⟩
  go_upto_region 4 with fail
  rw [← hX1, ← HSe.out]
  clear hX1 d0 d1 d2 d3 d4 d5 d6 hgb hWg
  have HTX : Hid (X1.heap[Tb]? = some (.cells #[.slice ap ps.length cp, .slice sa es.length cs, .int .i64 tm] 70 (0, 0))) := (K1.out.trans KX1.out).block _ _ HT.out (fun x => x.elim)
  have HSW : Hid (W.heap.size ≤ S) := by rw [HSe.out]; exact K1.out.size
  have t2 : X1.cell? ⟨Tb, 2, none⟩ = some (.int .i64 tm) := blk_at HTX.out 2 rfl
  have s6 : X1.cell? ⟨S, 6, none⟩ = some (.int .i64 y.s.sn) := blk_at HX1.out 6 rfl
  have f6 : X1.frozen? ⟨S, 6, none⟩ = false := blk_free HX1.out 6
  go_upto_region 5 with fail
  obtain ⟨X2, hX2⟩ : ∃ X2, X2 = X1.setCell ⟨S, 6, none⟩ (.int .i64 tm) := ⟨_, rfl⟩
  rw [← hX2]
  have HX2 : Hid (X2.heap[S]? = some (.cells #[.int .i64 y.s.cl, .int .i64 y.s.ls, .int .i64 y.s.kd, .string (bs y.s.val), .int .i64 y.s.ver, .slice y.ao y.s.ks.length y.c, .int .i64 tm] 121 (0, 0))) := by rw [hX2]; exact blk_set HX1.out 6 _
  have KX2 : Hid (Kept Nil W X2) := by rw [hX2]; exact (K1.out.trans KX1.out).setNew (p := ⟨S, 6, none⟩) HSW.out _
  have HOX : Hid (OwnE W.heap.size X2 (some ⟨g, 0, none⟩) cl1 es) := by
    rw [hX2]
    exact ownsRow_setCell_other (HOl.out.kept KX1.out) (a := ⟨S, 6, none⟩) (fun e => by simp only [Value.ownBlock, Option.some.injEq] at e; have := HgS.out.2; omega) _
  clear hX2 t2 s6 f6
  obtain ⟨Rb, HRe⟩ : ∃ Rb, Hid (Rb = X2.heap.size) := ⟨_, rfl⟩
  obtain ⟨w2, hw2⟩ : ∃ w2, w2 = X2.alloc (.cells #[.int .i64 0, .string ⟨#[]⟩, .int .i64 0, .slice none 0 0] 55) := ⟨_, rfl⟩
  have K2w : Hid (Kept Nil X2 w2) := by rw [hw2]; exact (Kept.refl _ _).alloc _
  have HRb : Hid (w2.heap[Rb]? = some (.cells #[.int .i64 0, .string ⟨#[]⟩, .int .i64 0, .slice none 0 0] 55 (0, 0))) := by rw [hw2, HRe.out]; exact blk_new _ _
  have HSb : Hid (w2.heap[S]? = some (.cells #[.int .i64 y.s.cl, .int .i64 y.s.ls, .int .i64 y.s.kd, .string (bs y.s.val), .int .i64 y.s.ver, .slice y.ao y.s.ks.length y.c, .int .i64 tm] 121 (0, 0))) := K2w.out.block _ _ HX2.out (fun x => x.elim)
  have K2 : Hid (Kept Nil W w2) := KX2.out.trans K2w.out
  have HO2 : Hid (OwnE W.heap.size w2 (some ⟨g, 0, none⟩) cl1 es) := HOX.out.kept K2w.out
  have HT2 : Hid (w2.heap[Tb]? = some (.cells #[.slice ap ps.length cp, .slice sa es.length cs, .int .i64 tm] 70 (0, 0))) := K2.out.block _ _ HT.out (fun x => x.elim)
  have HQ2 : Hid (w2.heap[Q]? = some (.cells #[.int .i64 cl, .int .i64 nu, .int .i64 kd, .string (bs key), .string (bs val), .int .i64 m, .int .i64 tq] 75 (0, 0))) := K2.out.block _ _ HQ.out (fun x => x.elim)
  have HLs : Hid (Tb < W.heap.size ∧ Q < W.heap.size ∧ A < W.heap.size ∧ D < W.heap.size ∧ W.heap.size ≤ g ∧ g < S ∧ S < Rb ∧ Rb < w2.heap.size ∧ w.heap.size ≤ Tb ∧ w.heap.size ≤ Q) := ⟨lt_of_block HT.out, lt_of_block HQ.out, lt_of_block HZA.out, lt_of_block HZD.out, HgS.out.1, HgS.out.2, by rw [HRe.out]; exact lt_of_block HX2.out, lt_of_block HRb.out, by rw [HTe.out]; exact Nat.le_refl _, by rw [HQe.out]; omega⟩
  obtain ⟨Gd, HGd⟩ : ∃ Gd : Nat → Prop, Hid (Gd = fun k => G k ∧ (k < w.heap.size ∨ w2.heap.size ≤ k)) := ⟨_, rfl⟩
  have HGi : Hid (∀ k, Gd k → G k) := fun k hk => by rw [HGd.out] at hk; exact hk.1
  have HGn : Hid (∀ k, w2.heap.size ≤ k → Gd k) := fun k hk => by rw [HGd.out]; exact ⟨hG k (by have := KW.out.size; have := K2.out.size; omega), .inr hk⟩
  have HGx : Hid (∀ k, Gd k → k ≠ Tb ∧ k ≠ S ∧ k ≠ Rb ∧ k ≠ A ∧ k ≠ D ∧ k ≠ g) := fun k hk => by
    rw [HGd.out] at hk
    have h0 := hk.2
    have h1 := HLs.out
    have h2 := HN.out
    exact ⟨by omega, by omega, by omega, by omega, by omega, by omega⟩
  have HP2 : Hid (PIn Gd w2 ap cp ps) := (hp.mono (fun k hk hg => by rw [HGd.out]; exact ⟨hg, .inl hk⟩)).kept (KW.out.trans K2.out)
  have HS2 : Hid (SIn Gd w2 sa cs es) := (hs.mono (fun k hk hg => by rw [HGd.out]; exact ⟨hg, .inl hk⟩)).kept (KW.out.trans K2.out)
  have HKy : Hid (KIn Gd w2 y.ao y.c y.s.ks ∧ y.s.val.length ≤ maxLen) := by rw [HY.out]; exact ⟨HS2.out.keys _ (List.getElem_mem hk), HS2.out.val _ (List.getElem_mem hk)⟩
  have HFit : Hid (Fit ps) := hp.row.fit
  have hGK : Hid (∀ k, w.heap.size ≤ k → G k) := hG
  clear hp hs hG HGd HX1 KX1 HX2 HOX K2w HTX HOl K1
  go_upto_block 0 with fail
  rw [← hw2, ← HRe.out]
  clear hw2
  go_cut [] (fun wc => ∃ PS : List Pr, ∃ a1 c1, ∃ x : Se, ∃ rr : Rr, ∃ ko kc, Hid (wc.heap[Tb]? = some (.cells #[.slice a1 PS.length c1, .slice sa es.length cs, .int .i64 tm] 70 (0, 0))) ∧ Hid (wc.heap[S]? = some (.cells #[.int .i64 x.s.cl, .int .i64 x.s.ls, .int .i64 x.s.kd, .string (bs x.s.val), .int .i64 x.s.ver, .slice x.ao x.s.ks.length x.c, .int .i64 x.s.sn] 121 (0, 0))) ∧ Hid (wc.heap[Rb]? = some (.cells #[.int .i64 rr.kd, .string (bs rr.v), .int .i64 rr.n, .slice ko rr.ks.length kc] 55 (0, 0))) ∧ Hid (R = (PS, ss.set k x.s, rr)) ∧ Hid (PIn Gd wc a1 c1 PS) ∧ Hid (KIn Gd wc x.ao x.c x.s.ks ∧ x.s.val.length ≤ maxLen) ∧ Hid (KIn Gd wc ko kc rr.ks) ∧ Hid (Kept (fun q _ => q = Tb ∨ q = S ∨ q = Rb) w2 wc))
  case first =>
    obtain ⟨q0, q1, q2, q3, q4, q5, q6⟩ : w2.cell? ⟨Q, 0, none⟩ = some (.int .i64 cl) ∧ w2.cell? ⟨Q, 1, none⟩ = some (.int .i64 nu) ∧ w2.cell? ⟨Q, 2, none⟩ = some (.int .i64 kd) ∧ w2.cell? ⟨Q, 3, none⟩ = some (.string (bs key)) ∧ w2.cell? ⟨Q, 4, none⟩ = some (.string (bs val)) ∧ w2.cell? ⟨Q, 5, none⟩ = some (.int .i64 m) ∧ w2.cell? ⟨Q, 6, none⟩ = some (.int .i64 tq) := ⟨blk_at HQ2.out 0 rfl, blk_at HQ2.out 1 rfl, blk_at HQ2.out 2 rfl, blk_at HQ2.out 3 rfl, blk_at HQ2.out 4 rfl, blk_at HQ2.out 5 rfl, blk_at HQ2.out 6 rfl⟩
    have e1 : w2.cell? ⟨S, 1, none⟩ = some (.int .i64 y.s.ls) := blk_at HSb.out 1 rfl
    obtain ⟨r0, r1, r2, r3, z0, z1, z2, z3⟩ := res_cells HRb.out
    have hTR : Tb ≠ Rb := by have := HLs.out; omega
    have hSR : S ≠ Rb := by have := HLs.out; omega
    have hTS : Tb ≠ S := by have := HLs.out; omega
    have hwr : IntKind.i64.wrap (y.s.ls + 1) = y.s.ls + 1 := by rw [IntKind.wrap_i64]; have := HBK.out; omega
    by_cases h1 : nu < y.s.ls
    · have h1b : decide (nu < y.s.ls) = true := decide_eq_true h1
      have HE : Hid (R = (ps, ss.set k { y.s with sn := tm }, rr0 6)) := by
        show _ = _
        rw [HR.out]
        unfold askT
        rw [if_pos (.inl h1)]
      obtain ⟨V, hV⟩ : ∃ V, V = w2.setCell ⟨Rb, 0, none⟩ (.int .i64 6) := ⟨_, rfl⟩
      have KV : Hid (Kept (fun q _ => q = Tb ∨ q = S ∨ q = Rb) w2 V) := by rw [hV]; exact (Kept.refl _ _).setCell (p := ⟨Rb, 0, none⟩) (fun _ => .inr (.inr rfl)) _
      have HTV : Hid (V.heap[Tb]? = some (.cells #[.slice ap ps.length cp, .slice sa es.length cs, .int .i64 tm] 70 (0, 0))) := by rw [hV]; exact blk_other HT2.out (a := ⟨Rb, 0, none⟩) hTR _
      have HSV : Hid (V.heap[S]? = some (.cells #[.int .i64 y.s.cl, .int .i64 y.s.ls, .int .i64 y.s.kd, .string (bs y.s.val), .int .i64 y.s.ver, .slice y.ao y.s.ks.length y.c, .int .i64 tm] 121 (0, 0))) := by rw [hV]; exact blk_other HSb.out (a := ⟨Rb, 0, none⟩) hSR _
      have HRV : Hid (V.heap[Rb]? = some (.cells #[.int .i64 6, .string ⟨#[]⟩, .int .i64 0, .slice none 0 0] 55 (0, 0))) := by rw [hV]; exact blk_set HRb.out 0 _
      go_wp2
      rw [← hV]
      clear hV
      go_meet
      exact ⟨ps, ap, cp, ⟨{ y.s with sn := tm }, y.ao, y.c⟩, rr0 6, none, 0, HTV.out, HSV.out, HRV.out, HE.out, HP2.out.far KV.out (fun q o hk hx => by have h9 := HGx.out q hk; rcases hx with h | h | h; exact h9.1 h; exact h9.2.1 h; exact h9.2.2.1 h), ⟨HKy.out.1.far KV.out (fun q o hk hx => by have h9 := HGx.out q hk; rcases hx with h | h | h; exact h9.1 h; exact h9.2.1 h; exact h9.2.2.1 h), HKy.out.2⟩, KIn.none, KV.out⟩
    · have h1b : decide (nu < y.s.ls) = false := decide_eq_false h1
      by_cases h2 : nu < 1
      · have h2b : decide (nu < 1) = true := decide_eq_true h2
        have HE : Hid (R = (ps, ss.set k { y.s with sn := tm }, rr0 6)) := by
          show _ = _
          rw [HR.out]
          unfold askT
          rw [if_pos (.inr h2)]
        obtain ⟨V, hV⟩ : ∃ V, V = w2.setCell ⟨Rb, 0, none⟩ (.int .i64 6) := ⟨_, rfl⟩
        have KV : Hid (Kept (fun q _ => q = Tb ∨ q = S ∨ q = Rb) w2 V) := by rw [hV]; exact (Kept.refl _ _).setCell (p := ⟨Rb, 0, none⟩) (fun _ => .inr (.inr rfl)) _
        have HTV : Hid (V.heap[Tb]? = some (.cells #[.slice ap ps.length cp, .slice sa es.length cs, .int .i64 tm] 70 (0, 0))) := by rw [hV]; exact blk_other HT2.out (a := ⟨Rb, 0, none⟩) hTR _
        have HSV : Hid (V.heap[S]? = some (.cells #[.int .i64 y.s.cl, .int .i64 y.s.ls, .int .i64 y.s.kd, .string (bs y.s.val), .int .i64 y.s.ver, .slice y.ao y.s.ks.length y.c, .int .i64 tm] 121 (0, 0))) := by rw [hV]; exact blk_other HSb.out (a := ⟨Rb, 0, none⟩) hSR _
        have HRV : Hid (V.heap[Rb]? = some (.cells #[.int .i64 6, .string ⟨#[]⟩, .int .i64 0, .slice none 0 0] 55 (0, 0))) := by rw [hV]; exact blk_set HRb.out 0 _
        go_wp2
        rw [← hV]
        clear hV
        go_meet
        exact ⟨ps, ap, cp, ⟨{ y.s with sn := tm }, y.ao, y.c⟩, rr0 6, none, 0, HTV.out, HSV.out, HRV.out, HE.out, HP2.out.far KV.out (fun q o hk hx => by have h9 := HGx.out q hk; rcases hx with h | h | h; exact h9.1 h; exact h9.2.1 h; exact h9.2.2.1 h), ⟨HKy.out.1.far KV.out (fun q o hk hx => by have h9 := HGx.out q hk; rcases hx with h | h | h; exact h9.1 h; exact h9.2.1 h; exact h9.2.2.1 h), HKy.out.2⟩, KIn.none, KV.out⟩
      · have h2b : decide (nu < 1) = false := decide_eq_false h2
        by_cases h3 : y.s.ls + 1 < nu
        · have h3b : decide (y.s.ls + 1 < nu) = true := decide_eq_true h3
          have HE : Hid (R = (ps, ss.set k { y.s with sn := tm }, rr0 7)) := by
            show _ = _
            rw [HR.out]
            unfold askT
            rw [if_neg (by omega), if_pos h3]
          obtain ⟨V, hV⟩ : ∃ V, V = w2.setCell ⟨Rb, 0, none⟩ (.int .i64 7) := ⟨_, rfl⟩
          have KV : Hid (Kept (fun q _ => q = Tb ∨ q = S ∨ q = Rb) w2 V) := by rw [hV]; exact (Kept.refl _ _).setCell (p := ⟨Rb, 0, none⟩) (fun _ => .inr (.inr rfl)) _
          have HTV : Hid (V.heap[Tb]? = some (.cells #[.slice ap ps.length cp, .slice sa es.length cs, .int .i64 tm] 70 (0, 0))) := by rw [hV]; exact blk_other HT2.out (a := ⟨Rb, 0, none⟩) hTR _
          have HSV : Hid (V.heap[S]? = some (.cells #[.int .i64 y.s.cl, .int .i64 y.s.ls, .int .i64 y.s.kd, .string (bs y.s.val), .int .i64 y.s.ver, .slice y.ao y.s.ks.length y.c, .int .i64 tm] 121 (0, 0))) := by rw [hV]; exact blk_other HSb.out (a := ⟨Rb, 0, none⟩) hSR _
          have HRV : Hid (V.heap[Rb]? = some (.cells #[.int .i64 7, .string ⟨#[]⟩, .int .i64 0, .slice none 0 0] 55 (0, 0))) := by rw [hV]; exact blk_set HRb.out 0 _
          go_wp2
          rw [← hV]
          clear hV
          go_meet
          exact ⟨ps, ap, cp, ⟨{ y.s with sn := tm }, y.ao, y.c⟩, rr0 7, none, 0, HTV.out, HSV.out, HRV.out, HE.out, HP2.out.far KV.out (fun q o hk hx => by have h9 := HGx.out q hk; rcases hx with h | h | h; exact h9.1 h; exact h9.2.1 h; exact h9.2.2.1 h), ⟨HKy.out.1.far KV.out (fun q o hk hx => by have h9 := HGx.out q hk; rcases hx with h | h | h; exact h9.1 h; exact h9.2.1 h; exact h9.2.2.1 h), HKy.out.2⟩, KIn.none, KV.out⟩
        · have h3b : decide (y.s.ls + 1 < nu) = false := decide_eq_false h3
          by_cases h4 : nu = y.s.ls
          · have h4b : (nu == y.s.ls) = true := beq_iff_eq.2 h4
            have HE : Hid (R = (ps, ss.set k { y.s with sn := tm }, ⟨y.s.kd, y.s.val, y.s.ver, y.s.ks⟩)) := by
              show _ = _
              rw [HR.out]
              unfold askT
              rw [if_neg (by omega), if_neg h3, if_neg (by omega)]
            obtain ⟨V, hV⟩ : ∃ V, V = (((w2.setCell ⟨Rb, 0, none⟩ (.int .i64 y.s.kd)).setCell ⟨Rb, 1, none⟩ (.string (bs y.s.val))).setCell ⟨Rb, 2, none⟩ (.int .i64 y.s.ver)).setCell ⟨Rb, 3, none⟩ (.slice y.ao y.s.ks.length y.c) := ⟨_, rfl⟩
            have KV : Hid (Kept (fun q _ => q = Tb ∨ q = S ∨ q = Rb) w2 V) := by rw [hV]; exact ((((Kept.refl _ _).setCell (p := ⟨Rb, 0, none⟩) (fun _ => .inr (.inr rfl)) _).setCell (p := ⟨Rb, 1, none⟩) (fun _ => .inr (.inr rfl)) _).setCell (p := ⟨Rb, 2, none⟩) (fun _ => .inr (.inr rfl)) _).setCell (p := ⟨Rb, 3, none⟩) (fun _ => .inr (.inr rfl)) _
            have HTV : Hid (V.heap[Tb]? = some (.cells #[.slice ap ps.length cp, .slice sa es.length cs, .int .i64 tm] 70 (0, 0))) := by rw [hV]; exact blk_other (a := ⟨Rb, 3, none⟩) (blk_other (a := ⟨Rb, 2, none⟩) (blk_other (a := ⟨Rb, 1, none⟩) (blk_other HT2.out (a := ⟨Rb, 0, none⟩) hTR _) hTR _) hTR _) hTR _
            have HSV : Hid (V.heap[S]? = some (.cells #[.int .i64 y.s.cl, .int .i64 y.s.ls, .int .i64 y.s.kd, .string (bs y.s.val), .int .i64 y.s.ver, .slice y.ao y.s.ks.length y.c, .int .i64 tm] 121 (0, 0))) := by rw [hV]; exact blk_other (a := ⟨Rb, 3, none⟩) (blk_other (a := ⟨Rb, 2, none⟩) (blk_other (a := ⟨Rb, 1, none⟩) (blk_other HSb.out (a := ⟨Rb, 0, none⟩) hSR _) hSR _) hSR _) hSR _
            have HRV : Hid (V.heap[Rb]? = some (.cells #[.int .i64 y.s.kd, .string (bs y.s.val), .int .i64 y.s.ver, .slice y.ao y.s.ks.length y.c] 55 (0, 0))) := by rw [hV]; exact blk_set (blk_set (blk_set (blk_set HRb.out 0 _) 1 _) 2 _) 3 _
            have e2 : w2.cell? ⟨S, 2, none⟩ = some (.int .i64 y.s.kd) := blk_at HSb.out 2 rfl
            have e3 : w2.cell? ⟨S, 3, none⟩ = some (.string (bs y.s.val)) := blk_at HSb.out 3 rfl
            have e4 : w2.cell? ⟨S, 4, none⟩ = some (.int .i64 y.s.ver) := blk_at HSb.out 4 rfl
            have e5 : w2.cell? ⟨S, 5, none⟩ = some (.slice y.ao y.s.ks.length y.c) := blk_at HSb.out 5 rfl
            clear h4
            go_wp2
            rw [← hV]
            clear hV
            go_meet
            exact ⟨ps, ap, cp, ⟨{ y.s with sn := tm }, y.ao, y.c⟩, ⟨y.s.kd, y.s.val, y.s.ver, y.s.ks⟩, y.ao, y.c, HTV.out, HSV.out, HRV.out, HE.out, HP2.out.far KV.out (fun q o hk hx => by have h9 := HGx.out q hk; rcases hx with h | h | h; exact h9.1 h; exact h9.2.1 h; exact h9.2.2.1 h), ⟨HKy.out.1.far KV.out (fun q o hk hx => by have h9 := HGx.out q hk; rcases hx with h | h | h; exact h9.1 h; exact h9.2.1 h; exact h9.2.2.1 h), HKy.out.2⟩, HKy.out.1.far KV.out (fun q o hk hx => by have h9 := HGx.out q hk; rcases hx with h | h | h; exact h9.1 h; exact h9.2.1 h; exact h9.2.2.1 h), KV.out⟩
          · have h4b : (nu == y.s.ls) = false := beq_eq_false_iff_ne.2 h4
            have AP := refApply_any w2.heap.size cp ap ps key val kd m w2 HP2.out.row hlp hkey hval
            obtain ⟨PS, HPS⟩ : ∃ PS, Hid (PS = apP kd key val m ps) := ⟨_, rfl⟩
            obtain ⟨RR, HRR⟩ : ∃ RR, Hid (RR = apR kd key val m ps) := ⟨_, rfl⟩
            have HE : Hid (R = (PS, ss.set k { y.s with sn := tm, ls := nu, kd := RR.kd, val := RR.v, ver := RR.n, ks := RR.ks }, RR)) := by
              show _ = _
              rw [HR.out, HPS.out, HRR.out]
              unfold askT
              rw [if_neg (by omega), if_neg h3, if_pos (by omega)]
            have HPF : Hid (Fit PS) := by rw [HPS.out]; exact apP_fit HFit.out hkey
            have HKF : Hid (RR.ks.length ≤ 32 ∧ ∀ x ∈ RR.ks, x.length ≤ maxLen) := by rw [HRR.out]; exact apR_ks HFit.out
            have HVF : Hid (RR.v.length ≤ maxLen) := by rw [HRR.out]; exact apR_v
            rw [← HPS.out, ← HRR.out] at AP
            obtain ⟨rk, rv, rn, rks⟩ := RR
            have t0 : w2.cell? ⟨Tb, 0, none⟩ = some (.slice ap ps.length cp) := blk_at HT2.out 0 rfl
            clear h4 h3
            go_wp2_with fail
            go_fit AP
            rintro _ w3 ⟨ao', c', ko, kc, rfl, hps, hks, k3⟩
            have K3 : Hid (Kept Nil w2 w3) := k3
            have HP3 : Hid (PIn Gd w3 ao' c' PS) := by
              rcases hps with ⟨e1, e2, e3⟩ | ho
              · rw [e1, e2, e3]; exact HP2.out.kept k3
              · exact PIn.own ho HGn.out HPF.out
            have HK3 : Hid (KIn Gd w3 ko kc rks) := KIn.own hks HGn.out HKF.out.2 (by have := HKF.out.1; omega)
            clear hps hks k3 AP t0 q0 q1 q2 q3 q4 q5 q6 e1 r0 r1 r2 r3 z0 z1 z2 z3
            unfold rrV
            dsimp only
            have HT3 : Hid (w3.heap[Tb]? = some (.cells #[.slice ap ps.length cp, .slice sa es.length cs, .int .i64 tm] 70 (0, 0))) := K3.out.block _ _ HT2.out (fun x => x.elim)
            have HS3 : Hid (w3.heap[S]? = some (.cells #[.int .i64 y.s.cl, .int .i64 y.s.ls, .int .i64 y.s.kd, .string (bs y.s.val), .int .i64 y.s.ver, .slice y.ao y.s.ks.length y.c, .int .i64 tm] 121 (0, 0))) := K3.out.block _ _ HSb.out (fun x => x.elim)
            have HR3 : Hid (w3.heap[Rb]? = some (.cells #[.int .i64 0, .string ⟨#[]⟩, .int .i64 0, .slice none 0 0] 55 (0, 0))) := K3.out.block _ _ HRb.out (fun x => x.elim)
            have HQ3 : Hid (w3.heap[Q]? = some (.cells #[.int .i64 cl, .int .i64 nu, .int .i64 kd, .string (bs key), .string (bs val), .int .i64 m, .int .i64 tq] 75 (0, 0))) := K3.out.block _ _ HQ2.out (fun x => x.elim)
            obtain ⟨r0, r1, r2, r3, z0, z1, z2, z3⟩ := res_cells HR3.out
            obtain ⟨t0, _, _, tz0, _, _⟩ := tab_cells HT3.out
            have hRT : Rb ≠ Tb := fun e => hTR e.symm
            go_upto_region 7 with fail
            obtain ⟨Y1, hY1⟩ : ∃ Y1, Y1 = ((((w3.setCell ⟨Tb, 0, none⟩ (.slice ao' PS.length c')).setCell ⟨Rb, 0, none⟩ (.int .i64 rk)).setCell ⟨Rb, 1, none⟩ (.string (bs rv))).setCell ⟨Rb, 2, none⟩ (.int .i64 rn)).setCell ⟨Rb, 3, none⟩ (.slice ko rks.length kc) := ⟨_, rfl⟩
            rw [← hY1]
            have KY1 : Hid (Kept (fun q _ => q = Tb ∨ q = S ∨ q = Rb) w3 Y1) := by rw [hY1]; exact (((((Kept.refl _ _).setCell (p := ⟨Tb, 0, none⟩) (fun _ => .inl rfl) _).setCell (p := ⟨Rb, 0, none⟩) (fun _ => .inr (.inr rfl)) _).setCell (p := ⟨Rb, 1, none⟩) (fun _ => .inr (.inr rfl)) _).setCell (p := ⟨Rb, 2, none⟩) (fun _ => .inr (.inr rfl)) _).setCell (p := ⟨Rb, 3, none⟩) (fun _ => .inr (.inr rfl)) _
            have HTY : Hid (Y1.heap[Tb]? = some (.cells #[.slice ao' PS.length c', .slice sa es.length cs, .int .i64 tm] 70 (0, 0))) := by rw [hY1]; exact blk_other (a := ⟨Rb, 3, none⟩) (blk_other (a := ⟨Rb, 2, none⟩) (blk_other (a := ⟨Rb, 1, none⟩) (blk_other (blk_set HT3.out 0 _) (a := ⟨Rb, 0, none⟩) hTR _) hTR _) hTR _) hTR _
            have HSY : Hid (Y1.heap[S]? = some (.cells #[.int .i64 y.s.cl, .int .i64 y.s.ls, .int .i64 y.s.kd, .string (bs y.s.val), .int .i64 y.s.ver, .slice y.ao y.s.ks.length y.c, .int .i64 tm] 121 (0, 0))) := by rw [hY1]; exact blk_other (a := ⟨Rb, 3, none⟩) (blk_other (a := ⟨Rb, 2, none⟩) (blk_other (a := ⟨Rb, 1, none⟩) (blk_other (blk_other HS3.out (a := ⟨Tb, 0, none⟩) (fun e => hTS e.symm) _) (a := ⟨Rb, 0, none⟩) hSR _) hSR _) hSR _) hSR _
            have HRY : Hid (Y1.heap[Rb]? = some (.cells #[.int .i64 rk, .string (bs rv), .int .i64 rn, .slice ko rks.length kc] 55 (0, 0))) := by rw [hY1]; exact blk_set (blk_set (blk_set (blk_set (blk_other HR3.out (a := ⟨Tb, 0, none⟩) hRT _) 0 _) 1 _) 2 _) 3 _
            have HQY : Hid (Y1.heap[Q]? = some (.cells #[.int .i64 cl, .int .i64 nu, .int .i64 kd, .string (bs key), .string (bs val), .int .i64 m, .int .i64 tq] 75 (0, 0))) := KY1.out.block _ _ HQ3.out (fun hx => by have h9 := HLs.out; have h8 := HTe.out; have h7 := HQe.out; rcases hx with h | h | h <;> omega)
            clear hY1 r0 r1 r2 r3 z0 z1 z2 z3 t0 tz0 HT3 HS3 HR3 HQ3
            have q1 : Y1.cell? ⟨Q, 1, none⟩ = some (.int .i64 nu) := blk_at HQY.out 1 rfl
            obtain ⟨e1, e2, e3, e4, e5⟩ : Y1.cell? ⟨S, 1, none⟩ = some (.int .i64 y.s.ls) ∧ Y1.cell? ⟨S, 2, none⟩ = some (.int .i64 y.s.kd) ∧ Y1.cell? ⟨S, 3, none⟩ = some (.string (bs y.s.val)) ∧ Y1.cell? ⟨S, 4, none⟩ = some (.int .i64 y.s.ver) ∧ Y1.cell? ⟨S, 5, none⟩ = some (.slice y.ao y.s.ks.length y.c) := ⟨blk_at HSY.out 1 rfl, blk_at HSY.out 2 rfl, blk_at HSY.out 3 rfl, blk_at HSY.out 4 rfl, blk_at HSY.out 5 rfl⟩
            obtain ⟨f1, f2, f3, f4, f5⟩ : Y1.frozen? ⟨S, 1, none⟩ = false ∧ Y1.frozen? ⟨S, 2, none⟩ = false ∧ Y1.frozen? ⟨S, 3, none⟩ = false ∧ Y1.frozen? ⟨S, 4, none⟩ = false ∧ Y1.frozen? ⟨S, 5, none⟩ = false := ⟨blk_free HSY.out 1, blk_free HSY.out 2, blk_free HSY.out 3, blk_free HSY.out 4, blk_free HSY.out 5⟩
            obtain ⟨r0, r1, r2, r3, _, _, _, _⟩ := res_cells HRY.out
            have hRS : Rb ≠ S := fun e => hSR e.symm
            obtain ⟨V, hV⟩ : ∃ V, V = ((((Y1.setCell ⟨S, 1, none⟩ (.int .i64 nu)).setCell ⟨S, 2, none⟩ (.int .i64 rk)).setCell ⟨S, 3, none⟩ (.string (bs rv))).setCell ⟨S, 4, none⟩ (.int .i64 rn)).setCell ⟨S, 5, none⟩ (.slice ko rks.length kc) := ⟨_, rfl⟩
            have KVY : Hid (Kept (fun q _ => q = Tb ∨ q = S ∨ q = Rb) Y1 V) := by rw [hV]; exact (((((Kept.refl _ _).setCell (p := ⟨S, 1, none⟩) (fun _ => .inr (.inl rfl)) _).setCell (p := ⟨S, 2, none⟩) (fun _ => .inr (.inl rfl)) _).setCell (p := ⟨S, 3, none⟩) (fun _ => .inr (.inl rfl)) _).setCell (p := ⟨S, 4, none⟩) (fun _ => .inr (.inl rfl)) _).setCell (p := ⟨S, 5, none⟩) (fun _ => .inr (.inl rfl)) _
            have HTV : Hid (V.heap[Tb]? = some (.cells #[.slice ao' PS.length c', .slice sa es.length cs, .int .i64 tm] 70 (0, 0))) := by rw [hV]; exact blk_other (a := ⟨S, 5, none⟩) (blk_other (a := ⟨S, 4, none⟩) (blk_other (a := ⟨S, 3, none⟩) (blk_other (a := ⟨S, 2, none⟩) (blk_other HTY.out (a := ⟨S, 1, none⟩) hTS _) hTS _) hTS _) hTS _) hTS _
            have HRV : Hid (V.heap[Rb]? = some (.cells #[.int .i64 rk, .string (bs rv), .int .i64 rn, .slice ko rks.length kc] 55 (0, 0))) := by rw [hV]; exact blk_other (a := ⟨S, 5, none⟩) (blk_other (a := ⟨S, 4, none⟩) (blk_other (a := ⟨S, 3, none⟩) (blk_other (a := ⟨S, 2, none⟩) (blk_other HRY.out (a := ⟨S, 1, none⟩) hRS _) hRS _) hRS _) hRS _) hRS _
            have HSV : Hid (V.heap[S]? = some (.cells #[.int .i64 y.s.cl, .int .i64 nu, .int .i64 rk, .string (bs rv), .int .i64 rn, .slice ko rks.length kc, .int .i64 tm] 121 (0, 0))) := by rw [hV]; exact blk_set (blk_set (blk_set (blk_set (blk_set HSY.out 1 _) 2 _) 3 _) 4 _) 5 _
            have KV3 : Hid (Kept (fun q _ => q = Tb ∨ q = S ∨ q = Rb) w3 V) := KY1.out.trans KVY.out
            have KV : Hid (Kept (fun q _ => q = Tb ∨ q = S ∨ q = Rb) w2 V) := (K3.out.mono (fun _ _ x => x.elim)).trans KV3.out
            go_wp2
            rw [← hV]
            clear hV
            go_meet
            exact ⟨PS, ao', c', ⟨{ y.s with sn := tm, ls := nu, kd := rk, val := rv, ver := rn, ks := rks }, ko, kc⟩, ⟨rk, rv, rn, rks⟩, ko, kc, HTV.out, HSV.out, HRV.out, HE.out, HP3.out.far KV3.out (fun q o hk hx => by have h9 := HGx.out q hk; rcases hx with h | h | h; exact h9.1 h; exact h9.2.1 h; exact h9.2.2.1 h), ⟨HK3.out.far KV3.out (fun q o hk hx => by have h9 := HGx.out q hk; rcases hx with h | h | h; exact h9.1 h; exact h9.2.1 h; exact h9.2.2.1 h), HVF.out⟩, HK3.out.far KV3.out (fun q o hk hx => by have h9 := HGx.out q hk; rcases hx with h | h | h; exact h9.1 h; exact h9.2.1 h; exact h9.2.2.1 h), KV.out⟩
  case rest =>
    obtain ⟨PS, a1, c1, x, rr, ko, kc, HTc, HSc, HRc, HE, HPc, HKx, HKr, KC⟩ := hcut
    rename World => wc
    have HOc : Hid (OwnE W.heap.size wc (some ⟨g, 0, none⟩) cl1 es) := by
      refine ⟨HO2.out.1, HO2.out.2.imp id ?_⟩
      rintro ⟨g', cap, cur, hv, hb, hh, h3⟩
      refine ⟨g', cap, cur, hv, hb, KC.out.block _ _ hh (fun hx => ?_), h3⟩
      simp only [Value.slice.injEq, Option.some.injEq, Addr.mk.injEq] at hv
      have h9 := HLs.out
      rcases hx with h | h | h <;> omega
    obtain ⟨_, gl, he, _, hgb, _⟩ := HOc.out.block (by simp)
    cases he
    obtain ⟨d0, d1, d2, d3, d4, d5, d6⟩ := HOc.out.at7 hk
    rw [← HY.out] at d0 d1 d2 d3 d4 d5 d6
    obtain ⟨f0, f1, f2, f3, f4, f5, f6⟩ : wc.frozen? ⟨g, k * 7, none⟩ = false ∧ wc.frozen? ⟨g, k * 7 + 1, none⟩ = false ∧ wc.frozen? ⟨g, k * 7 + 2, none⟩ = false ∧ wc.frozen? ⟨g, k * 7 + 3, none⟩ = false ∧ wc.frozen? ⟨g, k * 7 + 4, none⟩ = false ∧ wc.frozen? ⟨g, k * 7 + 5, none⟩ = false ∧ wc.frozen? ⟨g, k * 7 + 6, none⟩ = false := ⟨blk_free hgb _, blk_free hgb _, blk_free hgb _, blk_free hgb _, blk_free hgb _, blk_free hgb _, blk_free hgb _⟩
    obtain ⟨x0, x1, x2, x3, x4, x5, x6⟩ : wc.cell? ⟨S, 0, none⟩ = some (.int .i64 x.s.cl) ∧ wc.cell? ⟨S, 1, none⟩ = some (.int .i64 x.s.ls) ∧ wc.cell? ⟨S, 2, none⟩ = some (.int .i64 x.s.kd) ∧ wc.cell? ⟨S, 3, none⟩ = some (.string (bs x.s.val)) ∧ wc.cell? ⟨S, 4, none⟩ = some (.int .i64 x.s.ver) ∧ wc.cell? ⟨S, 5, none⟩ = some (.slice x.ao x.s.ks.length x.c) ∧ wc.cell? ⟨S, 6, none⟩ = some (.int .i64 x.s.sn) := ⟨blk_at HSc.out 0 rfl, blk_at HSc.out 1 rfl, blk_at HSc.out 2 rfl, blk_at HSc.out 3 rfl, blk_at HSc.out 4 rfl, blk_at HSc.out 5 rfl, blk_at HSc.out 6 rfl⟩
    clear hgb
    go_upto_region 16 with fail
    obtain ⟨Z1, hZ1⟩ : ∃ Z1, Z1 = (((((((wc.setCell ⟨g, k * 7, none⟩ (.int .i64 x.s.cl)).setCell ⟨g, k * 7 + 1, none⟩ (.int .i64 x.s.ls)).setCell ⟨g, k * 7 + 2, none⟩ (.int .i64 x.s.kd)).setCell ⟨g, k * 7 + 3, none⟩ (.string (bs x.s.val))).setCell ⟨g, k * 7 + 4, none⟩ (.int .i64 x.s.ver)).setCell ⟨g, k * 7 + 5, none⟩ (.slice x.ao x.s.ks.length x.c)).setCell ⟨g, k * 7 + 6, none⟩ (.int .i64 x.s.sn)) := ⟨_, rfl⟩
    rw [← hZ1]
    have HOz : Hid (OwnE W.heap.size Z1 (some ⟨g, 0, none⟩) cl1 (es.set k x)) := by rw [hZ1]; exact HOc.out.set7 hk x
    have KZ1 : Hid (Kept (One g) wc Z1) := by rw [hZ1]; exact ((((((((Kept.refl _ _).setCell (p := ⟨g, k * 7, none⟩) (fun _ => rfl) _).setCell (p := ⟨g, k * 7 + 1, none⟩) (fun _ => rfl) _).setCell (p := ⟨g, k * 7 + 2, none⟩) (fun _ => rfl) _).setCell (p := ⟨g, k * 7 + 3, none⟩) (fun _ => rfl) _).setCell (p := ⟨g, k * 7 + 4, none⟩) (fun _ => rfl) _).setCell (p := ⟨g, k * 7 + 5, none⟩) (fun _ => rfl) _).setCell (p := ⟨g, k * 7 + 6, none⟩) (fun _ => rfl) _)
    clear hZ1 d0 d1 d2 d3 d4 d5 d6 f0 f1 f2 f3 f4 f5 f6 x0 x1 x2 x3 x4 x5 x6
    have HTz : Hid (Z1.heap[Tb]? = some (.cells #[.slice a1 PS.length c1, .slice sa es.length cs, .int .i64 tm] 70 (0, 0))) := KZ1.out.block _ _ HTc.out (fun hx => by have h9 := HLs.out; have : Tb = g := hx; omega)
    have HRz : Hid (Z1.heap[Rb]? = some (.cells #[.int .i64 rr.kd, .string (bs rr.v), .int .i64 rr.n, .slice ko rr.ks.length kc] 55 (0, 0))) := KZ1.out.block _ _ HRc.out (fun hx => by have h9 := HLs.out; have : Rb = g := hx; omega)
    obtain ⟨t0, t1, t2, tz0, tz1, tz2⟩ := tab_cells HTz.out
    go_upto_region 17 with fail
    obtain ⟨Y4, hY4⟩ : ∃ Y4, Y4 = Z1.setCell ⟨Tb, 1, none⟩ (.slice (some ⟨g, 0, none⟩) es.length cl1) := ⟨_, rfl⟩
    rw [← hY4]
    have HO4 : Hid (OwnE W.heap.size Y4 (some ⟨g, 0, none⟩) cl1 (es.set k x)) := by rw [hY4]; exact ownsRow_setCell_below HOz.out (a := ⟨Tb, 1, none⟩) HLs.out.1 _
    have KY4 : Hid (Kept (One Tb) Z1 Y4) := by rw [hY4]; exact (Kept.refl _ _).setCell (fun _ => rfl) _
    have HT4 : Hid (Y4.heap[Tb]? = some (.cells #[.slice a1 PS.length c1, .slice (some ⟨g, 0, none⟩) es.length cl1, .int .i64 tm] 70 (0, 0))) := by rw [hY4]; exact blk_set HTz.out 1 _
    have HR4 : Hid (Y4.heap[Rb]? = some (.cells #[.int .i64 rr.kd, .string (bs rr.v), .int .i64 rr.n, .slice ko rr.ks.length kc] 55 (0, 0))) := KY4.out.block _ _ HRz.out (fun hx => by have h9 := HLs.out; have : Rb = Tb := hx; omega)
    clear hY4 t0 t1 t2 tz0 tz1 tz2
    have K24 : Hid (Kept (fun q _ => q = Tb ∨ q = S ∨ q = Rb ∨ q = g) w2 Y4) := ((KC.out.mono (fun q _ hx => by rcases hx with h | h | h; exact .inl h; exact .inr (.inl h); exact .inr (.inr (.inl h)))).trans (KZ1.out.mono (fun q _ hx => .inr (.inr (.inr hx))))).trans (KY4.out.mono (fun q _ hx => .inl hx))
    have KY : Hid (Kept Nil w Y4) := Kept.ofNew (KW.out.trans K2.out) K24.out (fun q _ hx => by have h9 := HLs.out; have h8 := KW.out.size; rcases hx with h | h | h | h <;> omega)
    have HP4 : Hid (PIn Gd Y4 a1 c1 PS) := (HPc.out.far KZ1.out (fun q o hq hx => (HGx.out q hq).2.2.2.2.2 hx)).far KY4.out (fun q o hq hx => (HGx.out q hq).1 hx)
    have HKr4 : Hid (KIn Gd Y4 ko kc rr.ks) := (HKr.out.far KZ1.out (fun q o hq hx => (HGx.out q hq).2.2.2.2.2 hx)).far KY4.out (fun q o hq hx => (HGx.out q hq).1 hx)
    have HKs4 : Hid (∀ e ∈ es.set k x, KIn Gd Y4 e.ao e.c e.s.ks ∧ e.s.val.length ≤ maxLen) := fun e he => by
      rcases List.mem_or_eq_of_mem_set he with he | rfl
      · exact ⟨(HS2.out.keys e he).far K24.out (fun q o hq hx => by have h9 := HGx.out q hq; rcases hx with h | h | h | h; exact h9.1 h; exact h9.2.1 h; exact h9.2.2.1 h; exact h9.2.2.2.2.2 h), HS2.out.val e he⟩
      · exact ⟨(HKx.out.1.far KZ1.out (fun q o hq hx => (HGx.out q hq).2.2.2.2.2 hx)).far KY4.out (fun q o hq hx => (HGx.out q hq).1 hx), HKx.out.2⟩
    have B61 : Hid (Y4.heap[A]? = some (.cells #[.slice none 0 0, .slice none 0 0, .int .i64 0] 70 (0, 0))) := K24.out.block _ _ (K2.out.block _ _ HZA.out (fun x => x.elim)) (fun hx => by have h9 := HLs.out; have h8 := HN.out; rcases hx with h | h | h | h <;> omega)
    have B71 : Hid (Y4.heap[D]? = some (.cells #[.int .i64 0, .string ⟨#[]⟩, .int .i64 0, .slice none 0 0] 55 (0, 0))) := K24.out.block _ _ (K2.out.block _ _ HZD.out (fun x => x.elim)) (fun hx => by have h9 := HLs.out; have h8 := HN.out; rcases hx with h | h | h | h <;> omega)
    have HSx : Hid ((es.set k x).map Se.s = ss.set k x.s) := by show _ = _; rw [HSS.out, List.map_set]
    obtain ⟨t0, t1, t2, _, _, _⟩ := tab_cells HT4.out
    obtain ⟨u0, u1, u2, u3, _, _, _, _⟩ := res_cells HR4.out
    obtain ⟨r0, r1, r2, z0, z1, z2⟩ := tab_cells B61.out
    obtain ⟨s0, s1, s2, s3, y0, y1, y2, y3⟩ := res_cells B71.out
    obtain ⟨hAD, _, _, hTA, hTD⟩ := HN.out
    have hDA : D ≠ A := fun e => hAD e.symm
    have hAT : A ≠ Tb := fun e => hTA e.symm
    have hDT : D ≠ Tb := fun e => hTD e.symm
    have hRA : Rb ≠ A := by have := HLs.out; omega
    have hRD : Rb ≠ D := by have := HLs.out; omega
    have hAR : A ≠ Rb := fun e => hRA e.symm
    have hDR : D ≠ Rb := fun e => hRD e.symm
    obtain ⟨V, hV⟩ : ∃ V, V = (((((((Y4.setCell ⟨A, 0, none⟩ (.slice a1 PS.length c1)).setCell ⟨A, 1, none⟩ (.slice (some ⟨g, 0, none⟩) es.length cl1)).setCell ⟨A, 2, none⟩ (.int .i64 tm)).setCell ⟨D, 0, none⟩ (.int .i64 rr.kd)).setCell ⟨D, 1, none⟩ (.string (bs rr.v))).setCell ⟨D, 2, none⟩ (.int .i64 rr.n)).setCell ⟨D, 3, none⟩ (.slice ko rr.ks.length kc)) := ⟨_, rfl⟩
    have HV : Hid (_) := ret_world hV B61.out B71.out HN.out.1 HN.out.2.1 HN.out.2.2.1 KY.out
    have KD : Hid (Kept Nil V V.drew) := (Kept.refl _ _).drew
    have HOv : Hid (OwnE W.heap.size V.drew (some ⟨g, 0, none⟩) cl1 (es.set k x)) := OwnE.kept (own_kept HO4.out HV.out.2.2.2 (fun q cs hb hx => by have h9 := HLs.out; rcases hx with h | h <;> omega)) KD.out
    go_wp2_with fail
    go_region
    all_goals
      go_wp2
      rw [← hV]
      clear hV
      obtain ⟨j0, j1, j2, _⟩ := tab_cells (X := V.drew) HV.out.1
      obtain ⟨j3, j4, j5, j6, _⟩ := res_cells (X := V.drew) HV.out.2.1
      refine bodyPost_ret (v := .tuple #[.agg #[.slice a1 PS.length c1, .slice (some ⟨g, 0, none⟩) es.length cl1, .int .i64 tm], rrV rr ko kc]) (by simp [results, Try.results92, go_sem, rrV, j0, j1, j2, j3, j4, j5, j6]) rfl ?_
      rw [HE.out]
      exact ⟨a1, c1, some ⟨g, 0, none⟩, cl1, es.set k x, ko, kc, by dsimp only; rw [List.length_set], HSx.out, ((HP4.out.far HV.out.2.2.2 (fun q o hk hx => by have h9 := HGx.out q hk; rcases hx with h | h; exact h9.2.2.2.1 h; exact h9.2.2.2.2.1 h)).kept KD.out).mono (fun q _ hq => HGi.out q hq), SIn.own HOv.out (fun q hq => hGK.out q (by have := KW.out.size; omega)) (fun e he => (((HKs4.out e he).1.far HV.out.2.2.2 (fun q o hk hx => by have h9 := HGx.out q hk; rcases hx with h | h; exact h9.2.2.2.1 h; exact h9.2.2.2.2.1 h)).kept KD.out).mono (fun q _ hq => HGi.out q hq)) (fun e he => (HKs4.out e he).2), ((HKr4.out.far HV.out.2.2.2 (fun q o hk hx => by have h9 := HGx.out q hk; rcases hx with h | h; exact h9.2.2.2.1 h; exact h9.2.2.2.2.1 h)).kept KD.out).mono (fun q _ hq => HGi.out q hq), HV.out.2.2.1.trans KD.out⟩


end Go.Proofs.Ytblmmbghnkplkaa
