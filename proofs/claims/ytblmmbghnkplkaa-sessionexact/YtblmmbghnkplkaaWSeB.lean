/-
  Sessions: a client is served.
-/
import Derived.Test.YtblmmbghnkplkaaWOlc
import Derived.BigQuiet
import Derived.Test.YtblmmbghnkplkaaWKvC
namespace Go.Proofs.Ytblmmbghnkplkaa
open Go.RowKit

theorem ownK_nilS {B c : Nat} {w : World} {ks : List (List UInt8)} (h : OwnK B w none c ks) : ks = [] ∧ c = 0 := by
  rcases h.2 with ⟨h1, h2⟩ | ⟨g', cap', cur, hv, _⟩
  · simp only [Value.slice.injEq] at h1
    exact ⟨List.eq_nil_of_length_eq_zero h2, h1.2.2⟩
  · simp at hv
/-- Keys that share no memory with those of the sessions. -/
def Apart (es : List Se) (ko : Option Addr) (n kc : Nat) : Prop := ∀ e ∈ es, ∀ g, (Value.slice e.ao e.s.ks.length e.c).ownBlock = some g → (Value.slice ko n kc).ownBlock ≠ some g
theorem apart_none (es : List Se) : Apart es none 0 0 := fun _ _ _ _ h => by simp [Value.ownBlock] at h
theorem apart_new {B kc : Nat} {w w' : World} {es : List Se} {ko : Option Addr} {ks : List (List UInt8)} (h : OwnKs B w es) (ho : OwnK w.heap.size w' ko kc ks) : Apart es ko ks.length kc := fun e he g hg hk => by
  have h1 := (World.ownsRow.lt (h e he) g hg).2
  have h2 := own_row ho g hk
  omega
/-- What comes of it. -/
def ServPost (w0 w : World) (b cs : Nat) (sa : Option Addr) (tm : Int) (R : List Pr × List Ss × Rr) (e : Ending) (w' : World) : Prop :=
  ∃ ap' cp' es' ko kc, e = .returned (rrV R.2.2 ko kc) ∧ Led w0 w' b R.1 es' tm ap' sa cp' cs ∧ es'.map Se.s = R.2.1 ∧ OwnK w.heap.size w' ko kc R.2.2.ks ∧ Kept (TX b) w w' ∧ Apart es' ko R.2.2.ks.length kc
/-- Nothing but a kind is told: the result's cell is the call's own. -/
theorem kept_res {b D i : Nat} {w X : World} (h : Kept (TX b) w X) (hD : w.heap.size ≤ D) (u : Value) : Kept (TX b) w (X.setCell ⟨D, i, none⟩ u) := h.setNew (p := ⟨D, i, none⟩) hD u
theorem Led.far {w0 w : World} {b D i : Nat} {ps : List Pr} {es : List Se} {tm : Int} {ap sa : Option Addr} {cp cs : Nat} {cl : Array Value} (h : Led w0 w b ps es tm ap sa cp cs) (hD : w.heap[D]? = some (.cells cl 55 (0, 0))) (hn : w0.heap.size ≤ D) (u : Value) : Led w0 (w.setCell ⟨D, i, none⟩ u) b ps es tm ap sa cp cs := by
  have hbD : b ≠ D := fun e => by
    have h1 := h.blk
    unfold LedAt at h1
    rw [e, hD] at h1
    simp at h1
  exact ⟨blk_other h.blk (a := ⟨D, i, none⟩) hbD _, ownsRow_setCell_other h.op (a := ⟨D, i, none⟩) (own_neTyS h.op hD (by decide)) _, ownsRow_setCell_other h.oe (a := ⟨D, i, none⟩) (own_neTyS h.oe hD (by decide)) _, fun e he => ownsRow_setCell_other (h.ok e he) (a := ⟨D, i, none⟩) (own_neTyS (h.ok e he) hD (by decide)) _, h.kept.setNew (p := ⟨D, i, none⟩) hn _, h.new⟩
theorem Led.res {w0 w : World} {b D : Nat} {ps : List Pr} {es : List Se} {tm : Int} {ap sa : Option Addr} {cp cs : Nat} {cl : Array Value} (h : Led w0 w b ps es tm ap sa cp cs) (hD : w.heap[D]? = some (.cells cl 55 (0, 0))) (hn : w0.heap.size ≤ D) (x0 x1 x2 x3 : Value) : Led w0 ((((w.setCell ⟨D, 0, none⟩ x0).setCell ⟨D, 1, none⟩ x1).setCell ⟨D, 2, none⟩ x2).setCell ⟨D, 3, none⟩ x3) b ps es tm ap sa cp cs :=
  (((h.far hD hn _).far (blk_set hD 0 _) hn _).far (blk_set (blk_set hD 0 _) 1 _) hn _).far (blk_set (blk_set (blk_set hD 0 _) 1 _) 2 _) hn _

set_option maxRecDepth 100000 in
set_option maxHeartbeats 4000000 in
theorem serveA_any (w0 w : World) (b cp cs : Nat) (ps : List Pr) (es : List Se) (tm cl nu kd m tq : Int) (key val : List UInt8) (ap sa : Option Addr) (h : Led w0 w b ps es tm ap sa cp cs) (hs : SrtE es) (hl : es.length ≤ 8) (hls : ∀ e ∈ es, 0 ≤ e.s.ls ∧ e.s.ls ≤ 1099511627775) (hks : ∀ e ∈ es, e.s.ks.length ≤ 1048576 ∧ ∀ k ∈ e.s.ks, k.length ≤ maxLen) (hno : isE cl es = false) :
    Calls Try.prog 127 #[.pointer (some ⟨b, 0, none⟩), .agg #[.int .i64 cl, .int .i64 nu, .int .i64 kd, .string (bs key), .string (bs val), .int .i64 m, .int .i64 tq]] w (ServPost w0 w b cs sa tm (servT ps (es.map Se.s) tm cl nu kd key val m)) := by
  obtain ⟨R, HRR⟩ : ∃ R, Hid (R = servT ps (es.map Se.s) tm cl nu kd key val m) := ⟨_, rfl⟩
  rw [← HRR.out]
  obtain ⟨W, hW⟩ : ∃ W, W = (w.alloc (.cells #[.int .i64 cl, .int .i64 nu, .int .i64 kd, .string (bs key), .string (bs val), .int .i64 m, .int .i64 tq] 75)).alloc (.cells #[.int .i64 0, .string ⟨#[]⟩, .int .i64 0, .slice none 0 0] 55) := ⟨_, rfl⟩
  obtain ⟨C, HCe⟩ : ∃ C, Hid (C = w.heap.size) := ⟨_, rfl⟩
  obtain ⟨D, HDe⟩ : ∃ D, Hid (D = w.heap.size + 1) := ⟨_, rfl⟩
  have HQ : Hid (W.heap[C]? = some (.cells #[.int .i64 cl, .int .i64 nu, .int .i64 kd, .string (bs key), .string (bs val), .int .i64 m, .int .i64 tq] 75 (0, 0))) := by rw [hW, HCe.out]; exact blk_past (blk_new _ _) _
  have HR : Hid (W.heap[D]? = some (.cells #[.int .i64 0, .string ⟨#[]⟩, .int .i64 0, .slice none 0 0] 55 (0, 0))) := by
    rw [hW, HDe.out]
    have := blk_new (w.alloc (.cells #[.int .i64 cl, .int .i64 nu, .int .i64 kd, .string (bs key), .string (bs val), .int .i64 m, .int .i64 tq] 75)) (.cells #[.int .i64 0, .string ⟨#[]⟩, .int .i64 0, .slice none 0 0] 55)
    show _ = _
    simpa using this
  have HLW : Hid (Led w0 W b ps es tm ap sa cp cs) := by rw [hW]; exact h.next (((Kept.refl _ _).alloc _).alloc _)
  have KW : Hid (Kept (TX b) w W) := by rw [hW]; exact ((Kept.refl _ _).alloc _).alloc _
  have HW0 : Hid (w0.heap.size ≤ w.heap.size) := h.kept.size
  have HD : Hid (w.heap.size ≤ D ∧ w0.heap.size ≤ D) := by have h1 := HDe.out; have h2 := HW0.out; exact ⟨by omega, by omega⟩
  have FI := findL_any w0 W b cp cs ps es tm cl ap sa HLW.out hs hl
  have HLS : Hid (∀ e ∈ es, 0 ≤ e.s.ls ∧ e.s.ls ≤ 1099511627775) := hls
  have HKS : Hid (∀ e ∈ es, e.s.ks.length ≤ 1048576 ∧ ∀ k ∈ e.s.ks, k.length ≤ maxLen) := hks
  have HSR : Hid (SrtE es) := hs
  have q0 : W.cell? ⟨C, 0, none⟩ = some (.int .i64 cl) := blk_at HQ.out 0 rfl
  clear h hs hls hks
  have HE : Hid (R = (ps, es.map Se.s, rr0 8)) := by
    show _ = _
    rw [HRR.out]
    unfold servT
    rw [if_pos (by rw [← isE_map]; exact hno)]
  rw [hno] at FI
  go_enter Try.func127, Try.ntmps127
  go_upto_region 1 with fail
  rw [← hW, ← HDe.out, ← HCe.out]
  clear hW
  go_wp2_with fail
  go_fit FI
  rintro _ w1 ⟨rfl, k1⟩
  have HL1 : Hid (Led w0 w1 b ps es tm ap sa cp cs) := HLW.out.next k1
  have HQ1 : Hid (w1.heap[C]? = some (.cells #[.int .i64 cl, .int .i64 nu, .int .i64 kd, .string (bs key), .string (bs val), .int .i64 m, .int .i64 tq] 75 (0, 0))) := k1.block _ _ HQ.out (fun x => x.elim)
  have HR1 : Hid (w1.heap[D]? = some (.cells #[.int .i64 0, .string ⟨#[]⟩, .int .i64 0, .slice none 0 0] 55 (0, 0))) := k1.block _ _ HR.out (fun x => x.elim)
  have K1 : Hid (Kept (TX b) w w1) := KW.out.trans (k1.mono (fun _ _ x => x.elim))
  clear k1 FI HLW HQ HR KW q0
  have r0 : w1.cell? ⟨D, 0, none⟩ = some (.int .i64 0) := blk_at HR1.out 0 rfl
  have r1 : w1.cell? ⟨D, 1, none⟩ = some (.string ⟨#[]⟩) := blk_at HR1.out 1 rfl
  have r2 : w1.cell? ⟨D, 2, none⟩ = some (.int .i64 0) := blk_at HR1.out 2 rfl
  have r3 : w1.cell? ⟨D, 3, none⟩ = some (.slice none 0 0) := blk_at HR1.out 3 rfl
  have z0 : w1.frozen? ⟨D, 0, none⟩ = false := blk_free HR1.out 0
  have z1 : w1.frozen? ⟨D, 1, none⟩ = false := blk_free HR1.out 1
  have z2 : w1.frozen? ⟨D, 2, none⟩ = false := blk_free HR1.out 2
  have z3 : w1.frozen? ⟨D, 3, none⟩ = false := blk_free HR1.out 3
  obtain ⟨V, hV⟩ : ∃ V, V = (((w1.setCell ⟨D, 0, none⟩ (.int .i64 8)).setCell ⟨D, 1, none⟩ (.string ⟨#[]⟩)).setCell ⟨D, 2, none⟩ (.int .i64 0)).setCell ⟨D, 3, none⟩ (.slice none 0 0) := ⟨_, rfl⟩
  have BF : Hid (V.heap[D]? = some (.cells #[.int .i64 8, .string ⟨#[]⟩, .int .i64 0, .slice none 0 0] 55 (0, 0))) := by rw [hV]; exact blk_set (blk_set (blk_set (blk_set HR1.out 0 _) 1 _) 2 _) 3 _
  have LV : Hid (Led w0 V b ps es tm ap sa cp cs) := by rw [hV]; exact HL1.out.res HR1.out HD.out.2 _ _ _ _
  have KV : Hid (Kept (TX b) w V) := by rw [hV]; exact kept_res (kept_res (kept_res (kept_res K1.out HD.out.1 _) HD.out.1 _) HD.out.1 _) HD.out.1 _
  go_wp2
  rw [← hV]
  clear hV
  have j0 : V.cell? ⟨D, 0, none⟩ = some (.int .i64 8) := blk_at BF.out 0 rfl
  have j1 : V.cell? ⟨D, 1, none⟩ = some (.string ⟨#[]⟩) := blk_at BF.out 1 rfl
  have j2 : V.cell? ⟨D, 2, none⟩ = some (.int .i64 0) := blk_at BF.out 2 rfl
  have j3 : V.cell? ⟨D, 3, none⟩ = some (.slice none 0 0) := blk_at BF.out 3 rfl
  refine bodyPost_ret (v := rrV (rr0 8) none 0) (by simp [results, Try.results127, go_sem, rrV, rr0, bs, j0, j1, j2, j3]) rfl ?_
  rw [HE.out]
  exact ⟨ap, cp, es, none, 0, rfl, LV.out, rfl, World.ownsRow_nil _ _ _ _, KV.out, apart_none _⟩

set_option maxRecDepth 100000 in
set_option maxHeartbeats 4000000 in
theorem serveB_any (w0 w : World) (b cp cs : Nat) (ps : List Pr) (es : List Se) (tm cl nu kd m tq : Int) (key val : List UInt8) (ap sa : Option Addr) (h : Led w0 w b ps es tm ap sa cp cs) (hs : SrtE es) (hl : es.length ≤ 8) (hls : ∀ e ∈ es, 0 ≤ e.s.ls ∧ e.s.ls ≤ 1099511627775) (hks : ∀ e ∈ es, e.s.ks.length ≤ 1048576 ∧ ∀ k ∈ e.s.ks, k.length ≤ maxLen) (hyes : isE cl es = true) (hf : Fit ps) (hpl : ps.length ≤ 32) (hkey : key.length ≤ maxLen) (hval : val.length ≤ maxLen) (hrk : (apR kd key val m ps).ks.length ≤ 1048576 ∧ ∀ k ∈ (apR kd key val m ps).ks, k.length ≤ maxLen) (hnu : 0 ≤ nu ∧ nu ≤ 1099511627775) :
    Calls Try.prog 127 #[.pointer (some ⟨b, 0, none⟩), .agg #[.int .i64 cl, .int .i64 nu, .int .i64 kd, .string (bs key), .string (bs val), .int .i64 m, .int .i64 tq]] w (ServPost w0 w b cs sa tm (servT ps (es.map Se.s) tm cl nu kd key val m)) := by
  obtain ⟨R, HRR⟩ : ∃ R, Hid (R = servT ps (es.map Se.s) tm cl nu kd key val m) := ⟨_, rfl⟩
  rw [← HRR.out]
  have HFt : Hid (Fit ps) := hf
  have HPL : Hid (ps.length ≤ 32) := hpl
  have HKV : Hid (key.length ≤ maxLen ∧ val.length ≤ maxLen) := ⟨hkey, hval⟩
  have HRK0 : Hid ((apR kd key val m ps).ks.length ≤ 1048576 ∧ ∀ k ∈ (apR kd key val m ps).ks, k.length ≤ maxLen) := hrk
  clear hf hpl hkey hval hrk
  obtain ⟨hlo, _⟩ := isE_at hyes
  obtain ⟨g, gl0, rfl, hg0, hgn, _⟩ := h.row (by omega)
  have HG0 : Hid (∃ cs', w.heap[g]? = some (.cells cs' 121 (0, 0))) := ⟨_, hg0⟩
  clear hg0 hgn
  obtain ⟨W, hW⟩ : ∃ W, W = (w.alloc (.cells #[.int .i64 cl, .int .i64 nu, .int .i64 kd, .string (bs key), .string (bs val), .int .i64 m, .int .i64 tq] 75)).alloc (.cells #[.int .i64 0, .string ⟨#[]⟩, .int .i64 0, .slice none 0 0] 55) := ⟨_, rfl⟩
  obtain ⟨C, HCe⟩ : ∃ C, Hid (C = w.heap.size) := ⟨_, rfl⟩
  obtain ⟨D, HDe⟩ : ∃ D, Hid (D = w.heap.size + 1) := ⟨_, rfl⟩
  have HQ : Hid (W.heap[C]? = some (.cells #[.int .i64 cl, .int .i64 nu, .int .i64 kd, .string (bs key), .string (bs val), .int .i64 m, .int .i64 tq] 75 (0, 0))) := by rw [hW, HCe.out]; exact blk_past (blk_new _ _) _
  have HR : Hid (W.heap[D]? = some (.cells #[.int .i64 0, .string ⟨#[]⟩, .int .i64 0, .slice none 0 0] 55 (0, 0))) := by
    rw [hW, HDe.out]
    have := blk_new (w.alloc (.cells #[.int .i64 cl, .int .i64 nu, .int .i64 kd, .string (bs key), .string (bs val), .int .i64 m, .int .i64 tq] 75)) (.cells #[.int .i64 0, .string ⟨#[]⟩, .int .i64 0, .slice none 0 0] 55)
    show _ = _
    simpa using this
  have HLW : Hid (Led w0 W b ps es tm ap (some ⟨g, 0, none⟩) cp cs) := by rw [hW]; exact h.next (((Kept.refl _ _).alloc _).alloc _)
  have KW : Hid (Kept (TX b) w W) := by rw [hW]; exact ((Kept.refl _ _).alloc _).alloc _
  have HW0 : Hid (w0.heap.size ≤ w.heap.size) := h.kept.size
  have HD : Hid (w.heap.size ≤ D ∧ w0.heap.size ≤ D) := by have h1 := HDe.out; have h2 := HW0.out; exact ⟨by omega, by omega⟩
  have FI := findL_any w0 W b cp cs ps es tm cl ap (some ⟨g, 0, none⟩) HLW.out hs hl
  have HLS : Hid (∀ e ∈ es, 0 ≤ e.s.ls ∧ e.s.ls ≤ 1099511627775) := hls
  have HKS : Hid (∀ e ∈ es, e.s.ks.length ≤ 1048576 ∧ ∀ k ∈ e.s.ks, k.length ≤ maxLen) := hks
  have HSR : Hid (SrtE es) := hs
  have q0 : W.cell? ⟨C, 0, none⟩ = some (.int .i64 cl) := blk_at HQ.out 0 rfl
  clear h hs hls hks
  obtain ⟨i, HI⟩ : ∃ i, Hid (i = lowE cl es) := ⟨_, rfl⟩
  rw [hyes, ← HI.out] at FI
  rw [← HI.out] at hlo
  obtain ⟨x, HX⟩ : ∃ x : Se, Hid (x = es[i]) := ⟨_, (rfl : es[i] = es[i])⟩
  have HRS : Hid (R = if nu < x.s.ls ∨ nu < 1 then (ps, (es.map Se.s).set i { x.s with sn := tm }, rr0 6)
    else if x.s.ls + 1 < nu then (ps, (es.map Se.s).set i { x.s with sn := tm }, rr0 7)
    else if x.s.ls < nu then (apP kd key val m ps, (es.map Se.s).set i { x.s with sn := tm, ls := nu, kd := (apR kd key val m ps).kd, val := (apR kd key val m ps).v, ver := (apR kd key val m ps).n, ks := (apR kd key val m ps).ks }, apR kd key val m ps)
    else (ps, (es.map Se.s).set i { x.s with sn := tm }, ⟨x.s.kd, x.s.val, x.s.ver, x.s.ks⟩)) := by
    show _ = _
    rw [HRR.out]
    unfold servT
    rw [if_neg (by rw [← isE_map, hyes]; simp), ← lowE_map, ← HI.out, List.getElem?_map, List.getElem?_eq_getElem hlo, ← HX.out]
    rfl
  have hlsx : 0 ≤ x.s.ls ∧ x.s.ls ≤ 1099511627775 := HLS.out x (by rw [HX.out]; exact List.getElem_mem hlo)
  have HKX : Hid (x.s.ks.length ≤ 1048576 ∧ ∀ k ∈ x.s.ks, k.length ≤ maxLen) := HKS.out x (by rw [HX.out]; exact List.getElem_mem hlo)
  obtain ⟨x1, HX1⟩ : ∃ x1 : Se, Hid (x1 = ⟨{ x.s with sn := tm }, x.ao, x.c⟩) := ⟨_, rfl⟩
  have HM1 : Hid ((es.set i x1).map Se.s = (es.map Se.s).set i { x.s with sn := tm }) := by show _ = _; rw [List.map_set, HX1.out]
  have hii : (i : Int) < es.length := by omega
  go_enter Try.func127, Try.ntmps127
  go_upto_region 1 with fail
  rw [← hW, ← HDe.out, ← HCe.out]
  clear hW
  go_wp2_with fail
  go_fit FI
  rintro _ w1 ⟨rfl, k1⟩
  have HL1 : Hid (Led w0 w1 b ps es tm ap (some ⟨g, 0, none⟩) cp cs) := HLW.out.next k1
  have HQ1 : Hid (w1.heap[C]? = some (.cells #[.int .i64 cl, .int .i64 nu, .int .i64 kd, .string (bs key), .string (bs val), .int .i64 m, .int .i64 tq] 75 (0, 0))) := k1.block _ _ HQ.out (fun x => x.elim)
  have HR1 : Hid (w1.heap[D]? = some (.cells #[.int .i64 0, .string ⟨#[]⟩, .int .i64 0, .slice none 0 0] 55 (0, 0))) := k1.block _ _ HR.out (fun x => x.elim)
  have K1 : Hid (Kept (TX b) w w1) := KW.out.trans (k1.mono (fun _ _ x => x.elim))
  clear k1 FI HLW HQ HR KW q0
  have r0 : w1.cell? ⟨D, 0, none⟩ = some (.int .i64 0) := blk_at HR1.out 0 rfl
  have r1 : w1.cell? ⟨D, 1, none⟩ = some (.string ⟨#[]⟩) := blk_at HR1.out 1 rfl
  have r2 : w1.cell? ⟨D, 2, none⟩ = some (.int .i64 0) := blk_at HR1.out 2 rfl
  have r3 : w1.cell? ⟨D, 3, none⟩ = some (.slice none 0 0) := blk_at HR1.out 3 rfl
  have z0 : w1.frozen? ⟨D, 0, none⟩ = false := blk_free HR1.out 0
  have z1 : w1.frozen? ⟨D, 1, none⟩ = false := blk_free HR1.out 1
  have z2 : w1.frozen? ⟨D, 2, none⟩ = false := blk_free HR1.out 2
  have z3 : w1.frozen? ⟨D, 3, none⟩ = false := blk_free HR1.out 3
  obtain ⟨g', gl, e9, hgb, hgn, hgs⟩ := HL1.out.row (by omega)
  cases e9
  have HGB : Hid (w1.heap[g]? = some (.cells gl 121 (0, 0))) := hgb
  obtain ⟨_, _, _, _, _, _, y6⟩ := HL1.out.oe.at7 hlo
  have f6 : w1.frozen? ⟨g, i * 7 + 6, none⟩ = false := blk_free HGB.out _
  have p1 : w1.cell? ⟨b, 1, none⟩ = some (.slice (some ⟨g, 0, none⟩) es.length cs) := blk_at HL1.out.blk 1 rfl
  have p2 : w1.cell? ⟨b, 2, none⟩ = some (.int .i64 tm) := blk_at HL1.out.blk 2 rfl
  obtain ⟨X, hX⟩ : ∃ X, X = w1.setCell ⟨g, i * 7 + 6, none⟩ (.int .i64 tm) := ⟨_, rfl⟩
  have HLX : Hid (Led w0 X b ps (es.set i x1) tm ap (some ⟨g, 0, none⟩) cp cs) := by
    rw [hX]
    refine HL1.out.put1 hlo (by omega) x1 _ (by rw [HX1.out]; rfl) (fun r hr => ?_) ?_
    · rw [HX1.out, HX.out]
      match r, hr with
      | 0, _ | 1, _ | 2, _ | 3, _ | 4, _ | 5, _ => rfl
      | 6, hr => exact absurd rfl hr
      | r + 7, _ => rfl
    · rw [HX1.out, HX.out]
      exact HL1.out.ok es[i] (List.getElem_mem hlo)
  have HDg : Hid (D ≠ g ∧ C ≠ g) := by
    refine ⟨fun e => ?_, fun e => ?_⟩
    · have h1 := HR1.out
      rw [e, HGB.out] at h1
      simp at h1
    · have h1 := HQ1.out
      rw [e, HGB.out] at h1
      simp at h1
  have HQX : Hid (X.heap[C]? = some (.cells #[.int .i64 cl, .int .i64 nu, .int .i64 kd, .string (bs key), .string (bs val), .int .i64 m, .int .i64 tq] 75 (0, 0))) := by rw [hX]; exact blk_other HQ1.out (a := ⟨g, i * 7 + 6, none⟩) HDg.out.2 _
  have HRX : Hid (X.heap[D]? = some (.cells #[.int .i64 0, .string ⟨#[]⟩, .int .i64 0, .slice none 0 0] 55 (0, 0))) := by rw [hX]; exact blk_other HR1.out (a := ⟨g, i * 7 + 6, none⟩) HDg.out.1 _
  have KX : Hid (Kept (TX b) w X) := by rw [hX]; exact kept_ses K1.out HGB.out (.inr HG0.out) _
  go_upto_region 6 with fail
  rw [← hX]
  clear hX y6 f6 p1 p2 r0 r1 r2 r3 z0 z1 z2 z3 HL1 HQ1 HR1 K1 HGB hgb hgn hgs
  have hlx : i < (es.set i x1).length := by rw [List.length_set]; exact hlo
  have hxx : (es.set i x1)[i] = x1 := by rw [List.getElem_set, if_pos rfl]
  have HXX : Hid ((es.set i x1)[i] = x1) := hxx
  obtain ⟨y0, y1, y2, y3, y4, y5, y6⟩ := HLX.out.oe.at7 hlx
  rw [HXX.out, HX1.out] at y0 y1 y2 y3 y4 y5 y6
  dsimp only at y0 y1 y2 y3 y4 y5 y6
  have c1 : X.cell? ⟨C, 1, none⟩ = some (.int .i64 nu) := blk_at HQX.out 1 rfl
  have r0 : X.cell? ⟨D, 0, none⟩ = some (.int .i64 0) := blk_at HRX.out 0 rfl
  have r1 : X.cell? ⟨D, 1, none⟩ = some (.string ⟨#[]⟩) := blk_at HRX.out 1 rfl
  have r2 : X.cell? ⟨D, 2, none⟩ = some (.int .i64 0) := blk_at HRX.out 2 rfl
  have r3 : X.cell? ⟨D, 3, none⟩ = some (.slice none 0 0) := blk_at HRX.out 3 rfl
  have z0 : X.frozen? ⟨D, 0, none⟩ = false := blk_free HRX.out 0
  have z1 : X.frozen? ⟨D, 1, none⟩ = false := blk_free HRX.out 1
  have z2 : X.frozen? ⟨D, 2, none⟩ = false := blk_free HRX.out 2
  have z3 : X.frozen? ⟨D, 3, none⟩ = false := blk_free HRX.out 3
  by_cases ha : nu < x.s.ls
  · have HE : Hid (R = (ps, (es.map Se.s).set i { x.s with sn := tm }, rr0 6)) := by show _ = _; rw [HRS.out]; exact if_pos (.inl ha)
    go_quiet (fail)
    obtain ⟨Y, hY⟩ : ∃ V9 : World, V9 = X.drewN nq := ⟨_, rfl⟩
    have KNY : Hid (Kept Nil X Y) := by rw [hY]; exact (Kept.refl _ _).drewN _
    rw [← hY]
    have HLY : Hid (Led w0 Y b ps (es.set i x1) tm ap (some ⟨g, 0, none⟩) cp cs) := HLX.out.next KNY.out
    have HQY : Hid (Y.heap[C]? = some (.cells #[.int .i64 cl, .int .i64 nu, .int .i64 kd, .string (bs key), .string (bs val), .int .i64 m, .int .i64 tq] 75 (0, 0))) := KNY.out.block _ _ HQX.out (fun x => x.elim)
    have HRY : Hid (Y.heap[D]? = some (.cells #[.int .i64 0, .string ⟨#[]⟩, .int .i64 0, .slice none 0 0] 55 (0, 0))) := KNY.out.block _ _ HRX.out (fun x => x.elim)
    have KY : Hid (Kept (TX b) w Y) := KX.out.trans (KNY.out.mono (fun _ _ x => x.elim))
    clear hY KNY y0 y1 y2 y3 y4 y5 y6 c1 r0 r1 r2 r3 z0 z1 z2 z3 HLX HQX HRX KX
    obtain ⟨y0, y1, y2, y3, y4, y5, y6⟩ := HLY.out.oe.at7 hlx
    rw [HXX.out, HX1.out] at y0 y1 y2 y3 y4 y5 y6
    dsimp only at y0 y1 y2 y3 y4 y5 y6
    have c1 : Y.cell? ⟨C, 1, none⟩ = some (.int .i64 nu) := blk_at HQY.out 1 rfl
    have r0 : Y.cell? ⟨D, 0, none⟩ = some (.int .i64 0) := blk_at HRY.out 0 rfl
    have r1 : Y.cell? ⟨D, 1, none⟩ = some (.string ⟨#[]⟩) := blk_at HRY.out 1 rfl
    have r2 : Y.cell? ⟨D, 2, none⟩ = some (.int .i64 0) := blk_at HRY.out 2 rfl
    have r3 : Y.cell? ⟨D, 3, none⟩ = some (.slice none 0 0) := blk_at HRY.out 3 rfl
    have z0 : Y.frozen? ⟨D, 0, none⟩ = false := blk_free HRY.out 0
    have z1 : Y.frozen? ⟨D, 1, none⟩ = false := blk_free HRY.out 1
    have z2 : Y.frozen? ⟨D, 2, none⟩ = false := blk_free HRY.out 2
    have z3 : Y.frozen? ⟨D, 3, none⟩ = false := blk_free HRY.out 3
    obtain ⟨V, hV⟩ : ∃ V, V = (((Y.setCell ⟨D, 0, none⟩ (.int .i64 6)).setCell ⟨D, 1, none⟩ (.string ⟨#[]⟩)).setCell ⟨D, 2, none⟩ (.int .i64 0)).setCell ⟨D, 3, none⟩ (.slice none 0 0) := ⟨_, rfl⟩
    have BF : Hid (V.heap[D]? = some (.cells #[.int .i64 6, .string ⟨#[]⟩, .int .i64 0, .slice none 0 0] 55 (0, 0))) := by rw [hV]; exact blk_set (blk_set (blk_set (blk_set HRY.out 0 _) 1 _) 2 _) 3 _
    have LV : Hid (Led w0 V b ps (es.set i x1) tm ap (some ⟨g, 0, none⟩) cp cs) := by rw [hV]; exact HLY.out.res HRY.out HD.out.2 _ _ _ _
    have KV : Hid (Kept (TX b) w V) := by rw [hV]; exact kept_res (kept_res (kept_res (kept_res KY.out HD.out.1 _) HD.out.1 _) HD.out.1 _) HD.out.1 _
    go_wp2
    rw [← hV]
    clear hV
    have j0 : V.cell? ⟨D, 0, none⟩ = some (.int .i64 6) := blk_at BF.out 0 rfl
    have j1 : V.cell? ⟨D, 1, none⟩ = some (.string ⟨#[]⟩) := blk_at BF.out 1 rfl
    have j2 : V.cell? ⟨D, 2, none⟩ = some (.int .i64 0) := blk_at BF.out 2 rfl
    have j3 : V.cell? ⟨D, 3, none⟩ = some (.slice none 0 0) := blk_at BF.out 3 rfl
    refine bodyPost_ret (v := rrV (rr0 6) none 0) (by simp [results, Try.results127, go_sem, rrV, rr0, bs, j0, j1, j2, j3]) rfl ?_
    rw [HE.out]
    exact ⟨ap, cp, (es.set i x1), none, 0, rfl, LV.out, HM1.out, World.ownsRow_nil _ _ _ _, KV.out, apart_none _⟩
  · by_cases hb : nu < 1
    · have HE : Hid (R = (ps, (es.map Se.s).set i { x.s with sn := tm }, rr0 6)) := by show _ = _; rw [HRS.out]; exact if_pos (.inr hb)
      go_quiet (fail)
      obtain ⟨Y, hY⟩ : ∃ V9 : World, V9 = X.drewN nq := ⟨_, rfl⟩
      have KNY : Hid (Kept Nil X Y) := by rw [hY]; exact (Kept.refl _ _).drewN _
      rw [← hY]
      have HLY : Hid (Led w0 Y b ps (es.set i x1) tm ap (some ⟨g, 0, none⟩) cp cs) := HLX.out.next KNY.out
      have HQY : Hid (Y.heap[C]? = some (.cells #[.int .i64 cl, .int .i64 nu, .int .i64 kd, .string (bs key), .string (bs val), .int .i64 m, .int .i64 tq] 75 (0, 0))) := KNY.out.block _ _ HQX.out (fun x => x.elim)
      have HRY : Hid (Y.heap[D]? = some (.cells #[.int .i64 0, .string ⟨#[]⟩, .int .i64 0, .slice none 0 0] 55 (0, 0))) := KNY.out.block _ _ HRX.out (fun x => x.elim)
      have KY : Hid (Kept (TX b) w Y) := KX.out.trans (KNY.out.mono (fun _ _ x => x.elim))
      clear hY KNY y0 y1 y2 y3 y4 y5 y6 c1 r0 r1 r2 r3 z0 z1 z2 z3 HLX HQX HRX KX
      obtain ⟨y0, y1, y2, y3, y4, y5, y6⟩ := HLY.out.oe.at7 hlx
      rw [HXX.out, HX1.out] at y0 y1 y2 y3 y4 y5 y6
      dsimp only at y0 y1 y2 y3 y4 y5 y6
      have c1 : Y.cell? ⟨C, 1, none⟩ = some (.int .i64 nu) := blk_at HQY.out 1 rfl
      have r0 : Y.cell? ⟨D, 0, none⟩ = some (.int .i64 0) := blk_at HRY.out 0 rfl
      have r1 : Y.cell? ⟨D, 1, none⟩ = some (.string ⟨#[]⟩) := blk_at HRY.out 1 rfl
      have r2 : Y.cell? ⟨D, 2, none⟩ = some (.int .i64 0) := blk_at HRY.out 2 rfl
      have r3 : Y.cell? ⟨D, 3, none⟩ = some (.slice none 0 0) := blk_at HRY.out 3 rfl
      have z0 : Y.frozen? ⟨D, 0, none⟩ = false := blk_free HRY.out 0
      have z1 : Y.frozen? ⟨D, 1, none⟩ = false := blk_free HRY.out 1
      have z2 : Y.frozen? ⟨D, 2, none⟩ = false := blk_free HRY.out 2
      have z3 : Y.frozen? ⟨D, 3, none⟩ = false := blk_free HRY.out 3
      obtain ⟨V, hV⟩ : ∃ V, V = (((Y.setCell ⟨D, 0, none⟩ (.int .i64 6)).setCell ⟨D, 1, none⟩ (.string ⟨#[]⟩)).setCell ⟨D, 2, none⟩ (.int .i64 0)).setCell ⟨D, 3, none⟩ (.slice none 0 0) := ⟨_, rfl⟩
      have BF : Hid (V.heap[D]? = some (.cells #[.int .i64 6, .string ⟨#[]⟩, .int .i64 0, .slice none 0 0] 55 (0, 0))) := by rw [hV]; exact blk_set (blk_set (blk_set (blk_set HRY.out 0 _) 1 _) 2 _) 3 _
      have LV : Hid (Led w0 V b ps (es.set i x1) tm ap (some ⟨g, 0, none⟩) cp cs) := by rw [hV]; exact HLY.out.res HRY.out HD.out.2 _ _ _ _
      have KV : Hid (Kept (TX b) w V) := by rw [hV]; exact kept_res (kept_res (kept_res (kept_res KY.out HD.out.1 _) HD.out.1 _) HD.out.1 _) HD.out.1 _
      go_wp2
      rw [← hV]
      clear hV
      have j0 : V.cell? ⟨D, 0, none⟩ = some (.int .i64 6) := blk_at BF.out 0 rfl
      have j1 : V.cell? ⟨D, 1, none⟩ = some (.string ⟨#[]⟩) := blk_at BF.out 1 rfl
      have j2 : V.cell? ⟨D, 2, none⟩ = some (.int .i64 0) := blk_at BF.out 2 rfl
      have j3 : V.cell? ⟨D, 3, none⟩ = some (.slice none 0 0) := blk_at BF.out 3 rfl
      refine bodyPost_ret (v := rrV (rr0 6) none 0) (by simp [results, Try.results127, go_sem, rrV, rr0, bs, j0, j1, j2, j3]) rfl ?_
      rw [HE.out]
      exact ⟨ap, cp, (es.set i x1), none, 0, rfl, LV.out, HM1.out, World.ownsRow_nil _ _ _ _, KV.out, apart_none _⟩
    · have HRT : Hid (R = if x.s.ls + 1 < nu then (ps, (es.map Se.s).set i { x.s with sn := tm }, rr0 7)
        else if x.s.ls < nu then (apP kd key val m ps, (es.map Se.s).set i { x.s with sn := tm, ls := nu, kd := (apR kd key val m ps).kd, val := (apR kd key val m ps).v, ver := (apR kd key val m ps).n, ks := (apR kd key val m ps).ks }, apR kd key val m ps)
        else (ps, (es.map Se.s).set i { x.s with sn := tm }, ⟨x.s.kd, x.s.val, x.s.ver, x.s.ks⟩)) := by show _ = _; rw [HRS.out]; exact if_neg (by omega)
      go_quiet (fail)
      obtain ⟨Y, hY⟩ : ∃ V9 : World, V9 = X.drewN nq := ⟨_, rfl⟩
      have KNY : Hid (Kept Nil X Y) := by rw [hY]; exact (Kept.refl _ _).drewN _
      rw [← hY]
      have HLY : Hid (Led w0 Y b ps (es.set i x1) tm ap (some ⟨g, 0, none⟩) cp cs) := HLX.out.next KNY.out
      have HQY : Hid (Y.heap[C]? = some (.cells #[.int .i64 cl, .int .i64 nu, .int .i64 kd, .string (bs key), .string (bs val), .int .i64 m, .int .i64 tq] 75 (0, 0))) := KNY.out.block _ _ HQX.out (fun x => x.elim)
      have HRY : Hid (Y.heap[D]? = some (.cells #[.int .i64 0, .string ⟨#[]⟩, .int .i64 0, .slice none 0 0] 55 (0, 0))) := KNY.out.block _ _ HRX.out (fun x => x.elim)
      have KY : Hid (Kept (TX b) w Y) := KX.out.trans (KNY.out.mono (fun _ _ x => x.elim))
      clear hY KNY y0 y1 y2 y3 y4 y5 y6 c1 r0 r1 r2 r3 z0 z1 z2 z3 HLX HQX HRX KX
      obtain ⟨y0, y1, y2, y3, y4, y5, y6⟩ := HLY.out.oe.at7 hlx
      rw [HXX.out, HX1.out] at y0 y1 y2 y3 y4 y5 y6
      dsimp only at y0 y1 y2 y3 y4 y5 y6
      have c1 : Y.cell? ⟨C, 1, none⟩ = some (.int .i64 nu) := blk_at HQY.out 1 rfl
      have r0 : Y.cell? ⟨D, 0, none⟩ = some (.int .i64 0) := blk_at HRY.out 0 rfl
      have r1 : Y.cell? ⟨D, 1, none⟩ = some (.string ⟨#[]⟩) := blk_at HRY.out 1 rfl
      have r2 : Y.cell? ⟨D, 2, none⟩ = some (.int .i64 0) := blk_at HRY.out 2 rfl
      have r3 : Y.cell? ⟨D, 3, none⟩ = some (.slice none 0 0) := blk_at HRY.out 3 rfl
      have z0 : Y.frozen? ⟨D, 0, none⟩ = false := blk_free HRY.out 0
      have z1 : Y.frozen? ⟨D, 1, none⟩ = false := blk_free HRY.out 1
      have z2 : Y.frozen? ⟨D, 2, none⟩ = false := blk_free HRY.out 2
      have z3 : Y.frozen? ⟨D, 3, none⟩ = false := blk_free HRY.out 3
      go_upto_region 9 with fail
      have hw9 : IntKind.i64.wrap (x.s.ls + 1) = x.s.ls + 1 := by rw [IntKind.wrap_i64]; omega
      by_cases hc : x.s.ls + 1 < nu
      · have HE : Hid (R = (ps, (es.map Se.s).set i { x.s with sn := tm }, rr0 7)) := by show _ = _; rw [HRT.out]; exact if_pos hc
        have hc2 : nu > x.s.ls + 1 := hc
        go_quiet (fail)
        obtain ⟨Z, hZ⟩ : ∃ V9 : World, V9 = Y.drewN nq := ⟨_, rfl⟩
        have KNZ : Hid (Kept Nil Y Z) := by rw [hZ]; exact (Kept.refl _ _).drewN _
        rw [← hZ]
        have HLZ : Hid (Led w0 Z b ps (es.set i x1) tm ap (some ⟨g, 0, none⟩) cp cs) := HLY.out.next KNZ.out
        have HQZ : Hid (Z.heap[C]? = some (.cells #[.int .i64 cl, .int .i64 nu, .int .i64 kd, .string (bs key), .string (bs val), .int .i64 m, .int .i64 tq] 75 (0, 0))) := KNZ.out.block _ _ HQY.out (fun x => x.elim)
        have HRZ : Hid (Z.heap[D]? = some (.cells #[.int .i64 0, .string ⟨#[]⟩, .int .i64 0, .slice none 0 0] 55 (0, 0))) := KNZ.out.block _ _ HRY.out (fun x => x.elim)
        have KZ : Hid (Kept (TX b) w Z) := KY.out.trans (KNZ.out.mono (fun _ _ x => x.elim))
        clear hZ KNZ y0 y1 y2 y3 y4 y5 y6 c1 r0 r1 r2 r3 z0 z1 z2 z3 HLY HQY HRY KY
        obtain ⟨y0, y1, y2, y3, y4, y5, y6⟩ := HLZ.out.oe.at7 hlx
        rw [HXX.out, HX1.out] at y0 y1 y2 y3 y4 y5 y6
        dsimp only at y0 y1 y2 y3 y4 y5 y6
        have c1 : Z.cell? ⟨C, 1, none⟩ = some (.int .i64 nu) := blk_at HQZ.out 1 rfl
        have r0 : Z.cell? ⟨D, 0, none⟩ = some (.int .i64 0) := blk_at HRZ.out 0 rfl
        have r1 : Z.cell? ⟨D, 1, none⟩ = some (.string ⟨#[]⟩) := blk_at HRZ.out 1 rfl
        have r2 : Z.cell? ⟨D, 2, none⟩ = some (.int .i64 0) := blk_at HRZ.out 2 rfl
        have r3 : Z.cell? ⟨D, 3, none⟩ = some (.slice none 0 0) := blk_at HRZ.out 3 rfl
        have z0 : Z.frozen? ⟨D, 0, none⟩ = false := blk_free HRZ.out 0
        have z1 : Z.frozen? ⟨D, 1, none⟩ = false := blk_free HRZ.out 1
        have z2 : Z.frozen? ⟨D, 2, none⟩ = false := blk_free HRZ.out 2
        have z3 : Z.frozen? ⟨D, 3, none⟩ = false := blk_free HRZ.out 3
        obtain ⟨V, hV⟩ : ∃ V, V = (((Z.setCell ⟨D, 0, none⟩ (.int .i64 7)).setCell ⟨D, 1, none⟩ (.string ⟨#[]⟩)).setCell ⟨D, 2, none⟩ (.int .i64 0)).setCell ⟨D, 3, none⟩ (.slice none 0 0) := ⟨_, rfl⟩
        have BF : Hid (V.heap[D]? = some (.cells #[.int .i64 7, .string ⟨#[]⟩, .int .i64 0, .slice none 0 0] 55 (0, 0))) := by rw [hV]; exact blk_set (blk_set (blk_set (blk_set HRZ.out 0 _) 1 _) 2 _) 3 _
        have LV : Hid (Led w0 V b ps (es.set i x1) tm ap (some ⟨g, 0, none⟩) cp cs) := by rw [hV]; exact HLZ.out.res HRZ.out HD.out.2 _ _ _ _
        have KV : Hid (Kept (TX b) w V) := by rw [hV]; exact kept_res (kept_res (kept_res (kept_res KZ.out HD.out.1 _) HD.out.1 _) HD.out.1 _) HD.out.1 _
        go_wp2
        rw [← hV]
        clear hV
        have j0 : V.cell? ⟨D, 0, none⟩ = some (.int .i64 7) := blk_at BF.out 0 rfl
        have j1 : V.cell? ⟨D, 1, none⟩ = some (.string ⟨#[]⟩) := blk_at BF.out 1 rfl
        have j2 : V.cell? ⟨D, 2, none⟩ = some (.int .i64 0) := blk_at BF.out 2 rfl
        have j3 : V.cell? ⟨D, 3, none⟩ = some (.slice none 0 0) := blk_at BF.out 3 rfl
        refine bodyPost_ret (v := rrV (rr0 7) none 0) (by simp [results, Try.results127, go_sem, rrV, rr0, bs, j0, j1, j2, j3]) rfl ?_
        rw [HE.out]
        exact ⟨ap, cp, (es.set i x1), none, 0, rfl, LV.out, HM1.out, World.ownsRow_nil _ _ _ _, KV.out, apart_none _⟩
      · have hc2 : ¬ nu > x.s.ls + 1 := hc
        go_quiet (fail)
        obtain ⟨Z, hZ⟩ : ∃ V9 : World, V9 = Y.drewN nq := ⟨_, rfl⟩
        have KNZ : Hid (Kept Nil Y Z) := by rw [hZ]; exact (Kept.refl _ _).drewN _
        rw [← hZ]
        have HLZ : Hid (Led w0 Z b ps (es.set i x1) tm ap (some ⟨g, 0, none⟩) cp cs) := HLY.out.next KNZ.out
        have HQZ : Hid (Z.heap[C]? = some (.cells #[.int .i64 cl, .int .i64 nu, .int .i64 kd, .string (bs key), .string (bs val), .int .i64 m, .int .i64 tq] 75 (0, 0))) := KNZ.out.block _ _ HQY.out (fun x => x.elim)
        have HRZ : Hid (Z.heap[D]? = some (.cells #[.int .i64 0, .string ⟨#[]⟩, .int .i64 0, .slice none 0 0] 55 (0, 0))) := KNZ.out.block _ _ HRY.out (fun x => x.elim)
        have KZ : Hid (Kept (TX b) w Z) := KY.out.trans (KNZ.out.mono (fun _ _ x => x.elim))
        clear hZ KNZ y0 y1 y2 y3 y4 y5 y6 c1 r0 r1 r2 r3 z0 z1 z2 z3 HLY HQY HRY KY
        obtain ⟨y0, y1, y2, y3, y4, y5, y6⟩ := HLZ.out.oe.at7 hlx
        rw [HXX.out, HX1.out] at y0 y1 y2 y3 y4 y5 y6
        dsimp only at y0 y1 y2 y3 y4 y5 y6
        have c1 : Z.cell? ⟨C, 1, none⟩ = some (.int .i64 nu) := blk_at HQZ.out 1 rfl
        have r0 : Z.cell? ⟨D, 0, none⟩ = some (.int .i64 0) := blk_at HRZ.out 0 rfl
        have r1 : Z.cell? ⟨D, 1, none⟩ = some (.string ⟨#[]⟩) := blk_at HRZ.out 1 rfl
        have r2 : Z.cell? ⟨D, 2, none⟩ = some (.int .i64 0) := blk_at HRZ.out 2 rfl
        have r3 : Z.cell? ⟨D, 3, none⟩ = some (.slice none 0 0) := blk_at HRZ.out 3 rfl
        have z0 : Z.frozen? ⟨D, 0, none⟩ = false := blk_free HRZ.out 0
        have z1 : Z.frozen? ⟨D, 1, none⟩ = false := blk_free HRZ.out 1
        have z2 : Z.frozen? ⟨D, 2, none⟩ = false := blk_free HRZ.out 2
        have z3 : Z.frozen? ⟨D, 3, none⟩ = false := blk_free HRZ.out 3
        go_upto_region 11 with fail
        by_cases hd : x.s.ls < nu
        · have hd2 : nu > x.s.ls := hd
          go_quiet (fail)
          obtain ⟨A, hA⟩ : ∃ V9 : World, V9 = Z.drewN nq := ⟨_, rfl⟩
          have KNA : Hid (Kept Nil Z A) := by rw [hA]; exact (Kept.refl _ _).drewN _
          rw [← hA]
          have HLA : Hid (Led w0 A b ps (es.set i x1) tm ap (some ⟨g, 0, none⟩) cp cs) := HLZ.out.next KNA.out
          have HQA : Hid (A.heap[C]? = some (.cells #[.int .i64 cl, .int .i64 nu, .int .i64 kd, .string (bs key), .string (bs val), .int .i64 m, .int .i64 tq] 75 (0, 0))) := KNA.out.block _ _ HQZ.out (fun x => x.elim)
          have HRA : Hid (A.heap[D]? = some (.cells #[.int .i64 0, .string ⟨#[]⟩, .int .i64 0, .slice none 0 0] 55 (0, 0))) := KNA.out.block _ _ HRZ.out (fun x => x.elim)
          have KA : Hid (Kept (TX b) w A) := KZ.out.trans (KNA.out.mono (fun _ _ x => x.elim))
          clear hA KNA y0 y1 y2 y3 y4 y5 y6 c1 r0 r1 r2 r3 z0 z1 z2 z3 HLZ HQZ HRZ KZ
          obtain ⟨y0, y1, y2, y3, y4, y5, y6⟩ := HLA.out.oe.at7 hlx
          rw [HXX.out, HX1.out] at y0 y1 y2 y3 y4 y5 y6
          dsimp only at y0 y1 y2 y3 y4 y5 y6
          have c1 : A.cell? ⟨C, 1, none⟩ = some (.int .i64 nu) := blk_at HQA.out 1 rfl
          have r0 : A.cell? ⟨D, 0, none⟩ = some (.int .i64 0) := blk_at HRA.out 0 rfl
          have r1 : A.cell? ⟨D, 1, none⟩ = some (.string ⟨#[]⟩) := blk_at HRA.out 1 rfl
          have r2 : A.cell? ⟨D, 2, none⟩ = some (.int .i64 0) := blk_at HRA.out 2 rfl
          have r3 : A.cell? ⟨D, 3, none⟩ = some (.slice none 0 0) := blk_at HRA.out 3 rfl
          have z0 : A.frozen? ⟨D, 0, none⟩ = false := blk_free HRA.out 0
          have z1 : A.frozen? ⟨D, 1, none⟩ = false := blk_free HRA.out 1
          have z2 : A.frozen? ⟨D, 2, none⟩ = false := blk_free HRA.out 2
          have z3 : A.frozen? ⟨D, 3, none⟩ = false := blk_free HRA.out 3
          have HE : Hid (R = (apP kd key val m ps, (es.map Se.s).set i { x.s with sn := tm, ls := nu, kd := (apR kd key val m ps).kd, val := (apR kd key val m ps).v, ver := (apR kd key val m ps).n, ks := (apR kd key val m ps).ks }, apR kd key val m ps)) := by show _ = _; rw [HRT.out, if_neg hc, if_pos hd]
          have AP := apply_any A.heap.size cp ap ps key val kd m A.drew ((HLA.out.op.row HFt.out).nil (Kept.refl _ _).drew) (fun e => by have h9 := HLA.out.op; rw [e] at h9; exact ownP_nil h9) (by have := HPL.out; omega) HKV.out.1 HKV.out.2
          obtain ⟨PS, HPS⟩ : ∃ PS, Hid (PS = apP kd key val m ps) := ⟨_, rfl⟩
          obtain ⟨r, HRr⟩ : ∃ r, Hid (r = apR kd key val m ps) := ⟨_, rfl⟩
          rw [← HPS.out, ← HRr.out] at AP
          have HRK : Hid (r.ks.length ≤ 1048576 ∧ ∀ k ∈ r.ks, k.length ≤ maxLen) := by rw [HRr.out]; exact HRK0.out
          rw [← HPS.out, ← HRr.out] at HE
          have t3 : A.cell? ⟨g, i * 7 + 2 + 1, none⟩ = some (.string (bs x.s.val)) := y3
          have t4 : A.cell? ⟨g, i * 7 + 2 + 2, none⟩ = some (.int .i64 x.s.ver) := y4
          have t5 : A.cell? ⟨g, i * 7 + 2 + 3, none⟩ = some (.slice x.ao x.s.ks.length x.c) := y5
          have c2 : A.cell? ⟨C, 2, none⟩ = some (.int .i64 kd) := blk_at HQA.out 2 rfl
          have c3 : A.cell? ⟨C, 2 + 1, none⟩ = some (.string (bs key)) := blk_at HQA.out 3 rfl
          have c4 : A.cell? ⟨C, 2 + 2, none⟩ = some (.string (bs val)) := blk_at HQA.out 4 rfl
          have c5 : A.cell? ⟨C, 2 + 3, none⟩ = some (.int .i64 m) := blk_at HQA.out 5 rfl
          have c3' : A.cell? ⟨C, 3, none⟩ = some (.string (bs key)) := blk_at HQA.out 3 rfl
          have c4' : A.cell? ⟨C, 4, none⟩ = some (.string (bs val)) := blk_at HQA.out 4 rfl
          have c5' : A.cell? ⟨C, 5, none⟩ = some (.int .i64 m) := blk_at HQA.out 5 rfl
          have p0 : A.cell? ⟨b, 0, none⟩ = some (.slice ap ps.length cp) := blk_at HLA.out.blk 0 rfl
          obtain ⟨g', gl, e9, hgb, hgn, hgs⟩ := HLA.out.row (by omega)
          cases e9
          have HGB : Hid (A.heap[g]? = some (.cells gl 121 (0, 0))) := hgb
          clear hgb hgn hgs
          go_upto_region 12 with fail
          go_region_with (go_at_call 40; go_fit AP; rintro e w3 ⟨na, nc, ko2, kc2, rfl, o3, ok3, k3⟩; have K3 : Hid (Kept Nil A w3) := (Kept.refl _ _).drew.trans k3; have HO3 : Hid (OwnP A.heap.size w3 na nc PS) := o3; have HOK3 : Hid (OwnK A.heap.size w3 ko2 kc2 r.ks) := ok3; unfold rrV; have u0 : w3.cell? ⟨b, 0, none⟩ = some (.slice ap ps.length cp) := blk_at (K3.out.block _ _ HLA.out.blk (fun x => x.elim)) 0 rfl; have fb0 : w3.frozen? ⟨b, 0, none⟩ = false := blk_free (K3.out.block _ _ HLA.out.blk (fun x => x.elim)) 0; have HG3 : Hid (w3.heap[g]? = some (.cells gl 121 (0, 0))) := K3.out.block _ _ HGB.out (fun x => x.elim); have u2 := cell_kept (X := Nil) K3.out (fun _ x => x) y2; have u3 := cell_kept (X := Nil) K3.out (fun _ x => x) t3; have u4 := cell_kept (X := Nil) K3.out (fun _ x => x) t4; have u5 := cell_kept (X := Nil) K3.out (fun _ x => x) t5; have f2 : w3.frozen? ⟨g, i * 7 + 2, none⟩ = false := blk_free HG3.out _; have f3 : w3.frozen? ⟨g, i * 7 + 2 + 1, none⟩ = false := blk_free HG3.out _; have f4 : w3.frozen? ⟨g, i * 7 + 2 + 2, none⟩ = false := blk_free HG3.out _; have f5 : w3.frozen? ⟨g, i * 7 + 2 + 3, none⟩ = false := blk_free HG3.out _; clear o3 k3 ok3)
          all_goals
            obtain ⟨x2, HX2⟩ : ∃ x2 : Se, Hid (x2 = ⟨{ x.s with sn := tm, kd := r.kd, val := r.v, ver := r.n, ks := r.ks }, ko2, kc2⟩) := ⟨_, rfl⟩
            obtain ⟨V1, hV1⟩ : ∃ V1, V1 = w3.setCell ⟨b, 0, none⟩ (.slice na PS.length nc) := ⟨_, rfl⟩
            have HSz0 : Hid (w0.heap.size ≤ A.heap.size ∧ w.heap.size ≤ A.heap.size) := ⟨HLA.out.kept.size, KA.out.size⟩
            have HL3 : Hid (Led w0 w3 b ps (es.set i x1) tm ap (some ⟨g, 0, none⟩) cp cs) := HLA.out.next K3.out
            have HLV1 : Hid (Led w0 V1 b PS (es.set i x1) tm na (some ⟨g, 0, none⟩) nc cs) := by
              rw [hV1]
              have h3 := HL3.out
              exact ⟨blk_set h3.blk 0 _, own_led (own_mono HO3.out HSz0.out.1) h3.blk (by decide), own_led h3.oe h3.blk (by decide), fun e he => own_led (h3.ok e he) h3.blk (by decide), h3.kept.setNew (p := ⟨b, 0, none⟩) h3.new _, h3.new⟩
            have HKV1 : Hid (OwnK w0.heap.size V1 ko2 kc2 r.ks) := by rw [hV1]; exact own_led (own_mono HOK3.out HSz0.out.1) HL3.out.blk (by decide)
            have KV1 : Hid (Kept (TX b) w V1) := by rw [hV1]; exact kept_led (KA.out.trans (K3.out.mono (fun _ _ x => x.elim))) _
            have hbg : b ≠ g := fun e => by
              have h1 := HL3.out.blk
              unfold LedAt at h1
              rw [e, HG3.out] at h1
              simp at h1
            have hbD : b ≠ D := fun e => by
              have h1 := HLA.out.blk
              unfold LedAt at h1
              rw [e, HRA.out] at h1
              simp at h1
            have hbC : b ≠ C := fun e => by
              have h1 := HLA.out.blk
              unfold LedAt at h1
              rw [e, HQA.out] at h1
              simp at h1
            have HGV1 : Hid (V1.heap[g]? = some (.cells gl 121 (0, 0))) := by rw [hV1]; exact blk_other HG3.out (a := ⟨b, 0, none⟩) (fun e => hbg e.symm) _
            have HRV1 : Hid (V1.heap[D]? = some (.cells #[.int .i64 0, .string ⟨#[]⟩, .int .i64 0, .slice none 0 0] 55 (0, 0))) := by rw [hV1]; exact blk_other (K3.out.block _ _ HRA.out (fun x => x.elim)) (a := ⟨b, 0, none⟩) (fun e => hbD e.symm) _
            have HQV1 : Hid (V1.heap[C]? = some (.cells #[.int .i64 cl, .int .i64 nu, .int .i64 kd, .string (bs key), .string (bs val), .int .i64 m, .int .i64 tq] 75 (0, 0))) := by rw [hV1]; exact blk_other (K3.out.block _ _ HQA.out (fun x => x.elim)) (a := ⟨b, 0, none⟩) (fun e => hbC e.symm) _
            obtain ⟨V2, hV2⟩ : ∃ V2, V2 = (((V1.setCell ⟨g, i * 7 + 2, none⟩ (.int .i64 r.kd)).setCell ⟨g, i * 7 + 2 + 1, none⟩ (.string (bs r.v))).setCell ⟨g, i * 7 + 2 + 2, none⟩ (.int .i64 r.n)).setCell ⟨g, i * 7 + 2 + 3, none⟩ (.slice ko2 r.ks.length kc2) := ⟨_, rfl⟩
            have HLV2 : Hid (Led w0 V2 b PS (es.set i x2) tm na (some ⟨g, 0, none⟩) nc cs) := by
              rw [hV2]
              have h3 := HLV1.out
              have hx9 : (es.set i x1)[i]'hlx = x1 := HXX.out
              have h4 : (es.set i x1).set i x2 = es.set i x2 := List.set_set _
              have h5 := h3.oe.setAns hlx x2 (by rw [hx9, HX2.out, HX1.out]) (by rw [hx9, HX2.out, HX1.out]) (by rw [hx9, HX2.out, HX1.out])
              rw [h4, HX2.out] at h5
              refine ⟨?_, own_ans h3.op HGV1.out (by decide), by rw [HX2.out]; exact h5, fun e he => ?_, ?_, h3.new⟩
              · have h6 := h3.blk
                unfold LedAt at h6 ⊢
                rw [List.length_set] at h6 ⊢
                exact blk_other (a := ⟨g, i * 7 + 2 + 3, none⟩) (blk_other (a := ⟨g, i * 7 + 2 + 2, none⟩) (blk_other (a := ⟨g, i * 7 + 2 + 1, none⟩) (blk_other (a := ⟨g, i * 7 + 2, none⟩) h6 hbg _) hbg _) hbg _) hbg _
              · rw [← h4] at he
                rcases List.mem_or_eq_of_mem_set he with he | rfl
                · exact own_ans (h3.ok e he) HGV1.out (by decide)
                · rw [HX2.out]
                  exact own_ans HKV1.out HGV1.out (by decide)
              · obtain ⟨g', _, e9, hgb, hgn, _⟩ := h3.row (by rw [List.length_set]; omega)
                cases e9
                exact (((h3.kept.setNew (p := ⟨g, i * 7 + 2, none⟩) hgn _).setNew (p := ⟨g, i * 7 + 2 + 1, none⟩) hgn _).setNew (p := ⟨g, i * 7 + 2 + 2, none⟩) hgn _).setNew (p := ⟨g, i * 7 + 2 + 3, none⟩) hgn _
            have HQV2 : Hid (V2.heap[C]? = some (.cells #[.int .i64 cl, .int .i64 nu, .int .i64 kd, .string (bs key), .string (bs val), .int .i64 m, .int .i64 tq] 75 (0, 0))) := by rw [hV2]; exact blk_other (a := ⟨g, i * 7 + 2 + 3, none⟩) (blk_other (a := ⟨g, i * 7 + 2 + 2, none⟩) (blk_other (a := ⟨g, i * 7 + 2 + 1, none⟩) (blk_other (a := ⟨g, i * 7 + 2, none⟩) HQV1.out HDg.out.2 _) HDg.out.2 _) HDg.out.2 _) HDg.out.2 _
            have HRV2 : Hid (V2.heap[D]? = some (.cells #[.int .i64 0, .string ⟨#[]⟩, .int .i64 0, .slice none 0 0] 55 (0, 0))) := by rw [hV2]; exact blk_other (a := ⟨g, i * 7 + 2 + 3, none⟩) (blk_other (a := ⟨g, i * 7 + 2 + 2, none⟩) (blk_other (a := ⟨g, i * 7 + 2 + 1, none⟩) (blk_other (a := ⟨g, i * 7 + 2, none⟩) HRV1.out HDg.out.1 _) HDg.out.1 _) HDg.out.1 _) HDg.out.1 _
            have KV2 : Hid (Kept (TX b) w V2) := by
              rw [hV2]
              have b0 := blk_set HGV1.out (i * 7 + 2) (.int .i64 r.kd)
              have b1 := blk_set b0 (i * 7 + 2 + 1) (.string (bs r.v))
              have b2 := blk_set b1 (i * 7 + 2 + 2) (.int .i64 r.n)
              exact kept_ses (kept_ses (kept_ses (kept_ses KV1.out HGV1.out (.inr HG0.out) _) b0 (.inr HG0.out) _) b1 (.inr HG0.out) _) b2 (.inr HG0.out) _
            have HKV2 : Hid (OwnK w0.heap.size V2 ko2 kc2 r.ks) := by
              rw [hV2]
              exact own_ans HKV1.out HGV1.out (by decide)
            rw [← hV1, ← hV2]
            clear hV1 hV2 y0 y1 y2 y3 y4 y5 y6 c1 c2 c3 c4 c5 c3' c4' c5' r0 r1 r2 r3 z0 z1 z2 z3 t3 t4 t5 u0 u2 u3 u4 u5 fb0 f2 f3 f4 f5 p0 AP HLA HQA HRA KA HLV1 HQV1 HRV1 KV1 HL3 HKV1 HGV1 HG3 HGB HO3 HOK3 K3
            have hl2 : i < (es.set i x2).length := by rw [List.length_set]; exact hlo
            have hx2 : (es.set i x2)[i] = x2 := by rw [List.getElem_set, if_pos rfl]
            obtain ⟨y0, y1, y2, y3, y4, y5, y6⟩ := HLV2.out.oe.at7 hl2
            clear y0 y2 y3 y4 y5 y6
            obtain ⟨g', gl2, e9, hgb, hgn, hgs⟩ := HLV2.out.row (by omega)
            cases e9
            have HG2 : Hid (V2.heap[g]? = some (.cells gl2 121 (0, 0))) := hgb
            have f1 : V2.frozen? ⟨g, i * 7 + 1, none⟩ = false := blk_free HG2.out _
            have c1 : V2.cell? ⟨C, 1, none⟩ = some (.int .i64 nu) := blk_at HQV2.out 1 rfl
            clear hgb hgn hgs
            obtain ⟨x3, HX3⟩ : ∃ x3 : Se, Hid (x3 = ⟨{ x.s with sn := tm, ls := nu, kd := r.kd, val := r.v, ver := r.n, ks := r.ks }, ko2, kc2⟩) := ⟨_, rfl⟩
            have HM3 : Hid ((es.set i x3).map Se.s = (es.map Se.s).set i { x.s with sn := tm, ls := nu, kd := r.kd, val := r.v, ver := r.n, ks := r.ks }) := by show _ = _; rw [List.map_set, HX3.out]
            obtain ⟨V3, hV3⟩ : ∃ V3, V3 = V2.setCell ⟨g, i * 7 + 1, none⟩ (.int .i64 nu) := ⟨_, rfl⟩
            have HLV3 : Hid (Led w0 V3 b PS (es.set i x3) tm na (some ⟨g, 0, none⟩) nc cs) := by
              rw [hV3]
              have h4 : (es.set i x2).set i x3 = es.set i x3 := List.set_set _
              rw [← h4]
              refine HLV2.out.put1 hl2 (by omega) x3 _ (by rw [HX3.out]; rfl) (fun r' hr => ?_) ?_
              · rw [hx2, HX3.out, HX2.out]
                match r', hr with
                | 0, _ | 2, _ | 3, _ | 4, _ | 5, _ | 6, _ => rfl
                | 1, hr => exact absurd rfl hr
                | r' + 7, _ => rfl
              · rw [HX3.out]
                exact HKV2.out
            have HRV3 : Hid (V3.heap[D]? = some (.cells #[.int .i64 0, .string ⟨#[]⟩, .int .i64 0, .slice none 0 0] 55 (0, 0))) := by rw [hV3]; exact blk_other HRV2.out (a := ⟨g, i * 7 + 1, none⟩) HDg.out.1 _
            have KV3 : Hid (Kept (TX b) w V3) := by rw [hV3]; exact kept_ses KV2.out HG2.out (.inr HG0.out) _
            have HKV3 : Hid (OwnK w0.heap.size V3 ko2 kc2 r.ks) := by rw [hV3]; exact own_ses HKV2.out HG2.out (by decide)
            go_upto_region 14 with fail
            rw [← hV3]
            clear hV3 y1 f1 c1 HLV2 HQV2 HRV2 KV2 HKV2 HG2
            have hl3 : i < (es.set i x3).length := by rw [List.length_set]; exact hlo
            have hx3 : (es.set i x3)[i] = x3 := by rw [List.getElem_set, if_pos rfl]
            obtain ⟨y0, y1, y2, y3, y4, y5, y6⟩ := HLV3.out.oe.at7 hl3
            rw [hx3, HX3.out] at y0 y1 y2 y3 y4 y5 y6
            dsimp only at y0 y1 y2 y3 y4 y5 y6
            have t3 : V3.cell? ⟨g, i * 7 + 2 + 1, none⟩ = some (.string (bs r.v)) := y3
            have t4 : V3.cell? ⟨g, i * 7 + 2 + 2, none⟩ = some (.int .i64 r.n) := y4
            have t5 : V3.cell? ⟨g, i * 7 + 2 + 3, none⟩ = some (.slice ko2 r.ks.length kc2) := y5
            have hok := HKV3.out
            have OR := ownResult_any V3.heap.size kc2 r.kd r.n r.v ko2 r.ks V3 (hok.row HRK.out.2) (fun e => by rw [e] at hok; exact ownK_nilS hok) (by have := HRK.out.1; omega)
            clear hok
            go_wp2_with fail
            go_fit OR
            rintro _ w4 ⟨ko, kc, rfl, o3, k3⟩
            have HLB : Hid (Led w0 w4 b PS (es.set i x3) tm na (some ⟨g, 0, none⟩) nc cs) := HLV3.out.next k3
            have HRB : Hid (w4.heap[D]? = some (.cells #[.int .i64 0, .string ⟨#[]⟩, .int .i64 0, .slice none 0 0] 55 (0, 0))) := k3.block _ _ HRV3.out (fun x => x.elim)
            have KB : Hid (Kept (TX b) w w4) := KV3.out.trans (k3.mono (fun _ _ x => x.elim))
            have HO3 : Hid (OwnK V3.heap.size w4 ko kc r.ks) := o3
            have HSZ : Hid (w.heap.size ≤ V3.heap.size ∧ D < V3.heap.size) := ⟨KV3.out.size, lt_of_block HRV3.out⟩
            clear o3 k3 OR y0 y1 y2 y3 y4 y5 y6 t3 t4 t5
            have r0 : w4.cell? ⟨D, 0, none⟩ = some (.int .i64 0) := blk_at HRB.out 0 rfl
            have r1 : w4.cell? ⟨D, 1, none⟩ = some (.string ⟨#[]⟩) := blk_at HRB.out 1 rfl
            have r2 : w4.cell? ⟨D, 2, none⟩ = some (.int .i64 0) := blk_at HRB.out 2 rfl
            have r3 : w4.cell? ⟨D, 3, none⟩ = some (.slice none 0 0) := blk_at HRB.out 3 rfl
            have z0 : w4.frozen? ⟨D, 0, none⟩ = false := blk_free HRB.out 0
            have z1 : w4.frozen? ⟨D, 1, none⟩ = false := blk_free HRB.out 1
            have z2 : w4.frozen? ⟨D, 2, none⟩ = false := blk_free HRB.out 2
            have z3 : w4.frozen? ⟨D, 3, none⟩ = false := blk_free HRB.out 3
            obtain ⟨V, hV⟩ : ∃ V, V = (((w4.setCell ⟨D, 0, none⟩ (.int .i64 r.kd)).setCell ⟨D, 1, none⟩ (.string (bs r.v))).setCell ⟨D, 2, none⟩ (.int .i64 r.n)).setCell ⟨D, 3, none⟩ (.slice ko r.ks.length kc) := ⟨_, rfl⟩
            have BF : Hid (V.heap[D]? = some (.cells #[.int .i64 r.kd, .string (bs r.v), .int .i64 r.n, .slice ko r.ks.length kc] 55 (0, 0))) := by rw [hV]; exact blk_set (blk_set (blk_set (blk_set HRB.out 0 _) 1 _) 2 _) 3 _
            have LV : Hid (Led w0 V b PS (es.set i x3) tm na (some ⟨g, 0, none⟩) nc cs) := by rw [hV]; exact HLB.out.res HRB.out HD.out.2 _ _ _ _
            have KV : Hid (Kept (TX b) w V) := by rw [hV]; exact kept_res (kept_res (kept_res (kept_res KB.out HD.out.1 _) HD.out.1 _) HD.out.1 _) HD.out.1 _
            have OV : Hid (OwnK w.heap.size V ko kc r.ks) := by rw [hV]; exact own_mono (ownsRow_setCell_below (a := ⟨D, 3, none⟩) (ownsRow_setCell_below (a := ⟨D, 2, none⟩) (ownsRow_setCell_below (a := ⟨D, 1, none⟩) (ownsRow_setCell_below (a := ⟨D, 0, none⟩) HO3.out HSZ.out.2 _) HSZ.out.2 _) HSZ.out.2 _) HSZ.out.2 _) HSZ.out.1
            go_wp2
            rw [← hV]
            clear hV
            have j0 : V.cell? ⟨D, 0, none⟩ = some (.int .i64 r.kd) := blk_at BF.out 0 rfl
            have j1 : V.cell? ⟨D, 1, none⟩ = some (.string (bs r.v)) := blk_at BF.out 1 rfl
            have j2 : V.cell? ⟨D, 2, none⟩ = some (.int .i64 r.n) := blk_at BF.out 2 rfl
            have j3 : V.cell? ⟨D, 3, none⟩ = some (.slice ko r.ks.length kc) := blk_at BF.out 3 rfl
            refine bodyPost_ret (v := .agg #[.int .i64 r.kd, .string (bs r.v), .int .i64 r.n, .slice ko r.ks.length kc]) (by simp [results, Try.results127, go_sem, j0, j1, j2, j3]) rfl ?_
            rw [HE.out]
            exact ⟨na, nc, (es.set i x3), ko, kc, rfl, LV.out, HM3.out, OV.out, KV.out, apart_new HLV3.out.ok HO3.out⟩
        · have hd2 : ¬ nu > x.s.ls := hd
          have HE : Hid (R = (ps, (es.map Se.s).set i { x.s with sn := tm }, ⟨x.s.kd, x.s.val, x.s.ver, x.s.ks⟩)) := by show _ = _; rw [HRT.out, if_neg hc, if_neg hd]
          go_quiet (fail)
          obtain ⟨A, hA⟩ : ∃ V9 : World, V9 = Z.drewN nq := ⟨_, rfl⟩
          have KNA : Hid (Kept Nil Z A) := by rw [hA]; exact (Kept.refl _ _).drewN _
          rw [← hA]
          have HLA : Hid (Led w0 A b ps (es.set i x1) tm ap (some ⟨g, 0, none⟩) cp cs) := HLZ.out.next KNA.out
          have HQA : Hid (A.heap[C]? = some (.cells #[.int .i64 cl, .int .i64 nu, .int .i64 kd, .string (bs key), .string (bs val), .int .i64 m, .int .i64 tq] 75 (0, 0))) := KNA.out.block _ _ HQZ.out (fun x => x.elim)
          have HRA : Hid (A.heap[D]? = some (.cells #[.int .i64 0, .string ⟨#[]⟩, .int .i64 0, .slice none 0 0] 55 (0, 0))) := KNA.out.block _ _ HRZ.out (fun x => x.elim)
          have KA : Hid (Kept (TX b) w A) := KZ.out.trans (KNA.out.mono (fun _ _ x => x.elim))
          clear hA KNA y0 y1 y2 y3 y4 y5 y6 c1 r0 r1 r2 r3 z0 z1 z2 z3 HLZ HQZ HRZ KZ
          obtain ⟨y0, y1, y2, y3, y4, y5, y6⟩ := HLA.out.oe.at7 hlx
          rw [HXX.out, HX1.out] at y0 y1 y2 y3 y4 y5 y6
          dsimp only at y0 y1 y2 y3 y4 y5 y6
          have c1 : A.cell? ⟨C, 1, none⟩ = some (.int .i64 nu) := blk_at HQA.out 1 rfl
          have r0 : A.cell? ⟨D, 0, none⟩ = some (.int .i64 0) := blk_at HRA.out 0 rfl
          have r1 : A.cell? ⟨D, 1, none⟩ = some (.string ⟨#[]⟩) := blk_at HRA.out 1 rfl
          have r2 : A.cell? ⟨D, 2, none⟩ = some (.int .i64 0) := blk_at HRA.out 2 rfl
          have r3 : A.cell? ⟨D, 3, none⟩ = some (.slice none 0 0) := blk_at HRA.out 3 rfl
          have z0 : A.frozen? ⟨D, 0, none⟩ = false := blk_free HRA.out 0
          have z1 : A.frozen? ⟨D, 1, none⟩ = false := blk_free HRA.out 1
          have z2 : A.frozen? ⟨D, 2, none⟩ = false := blk_free HRA.out 2
          have z3 : A.frozen? ⟨D, 3, none⟩ = false := blk_free HRA.out 3
          have hok : OwnK w0.heap.size A x.ao x.c x.s.ks := by
            have := HLA.out.ok x1 (List.mem_set hlo x1)
            rw [HX1.out] at this
            exact this
          have OR := ownResult_any A.heap.size x.c x.s.kd x.s.ver x.s.val x.ao x.s.ks A (hok.row HKX.out.2) (fun e => by rw [e] at hok; exact ownK_nilS hok) (by have := HKX.out.1; omega)
          have t3 : A.cell? ⟨g, i * 7 + 2 + 1, none⟩ = some (.string (bs x.s.val)) := y3
          have t4 : A.cell? ⟨g, i * 7 + 2 + 2, none⟩ = some (.int .i64 x.s.ver) := y4
          have t5 : A.cell? ⟨g, i * 7 + 2 + 3, none⟩ = some (.slice x.ao x.s.ks.length x.c) := y5
          clear hok
          go_wp2_with fail
          go_fit OR
          rintro _ w3 ⟨ko, kc, rfl, o3, k3⟩
          have HLB : Hid (Led w0 w3 b ps (es.set i x1) tm ap (some ⟨g, 0, none⟩) cp cs) := HLA.out.next k3
          have HRB : Hid (w3.heap[D]? = some (.cells #[.int .i64 0, .string ⟨#[]⟩, .int .i64 0, .slice none 0 0] 55 (0, 0))) := k3.block _ _ HRA.out (fun x => x.elim)
          have KB : Hid (Kept (TX b) w w3) := KA.out.trans (k3.mono (fun _ _ x => x.elim))
          have HO3 : Hid (OwnK A.heap.size w3 ko kc x.s.ks) := o3
          have HSZ : Hid (w.heap.size ≤ A.heap.size ∧ D < A.heap.size) := ⟨KA.out.size, lt_of_block HRA.out⟩
          clear o3 k3 OR y0 y1 y2 y3 y4 y5 y6 t3 t4 t5 c1 r0 r1 r2 r3 z0 z1 z2 z3
          have r0 : w3.cell? ⟨D, 0, none⟩ = some (.int .i64 0) := blk_at HRB.out 0 rfl
          have r1 : w3.cell? ⟨D, 1, none⟩ = some (.string ⟨#[]⟩) := blk_at HRB.out 1 rfl
          have r2 : w3.cell? ⟨D, 2, none⟩ = some (.int .i64 0) := blk_at HRB.out 2 rfl
          have r3 : w3.cell? ⟨D, 3, none⟩ = some (.slice none 0 0) := blk_at HRB.out 3 rfl
          have z0 : w3.frozen? ⟨D, 0, none⟩ = false := blk_free HRB.out 0
          have z1 : w3.frozen? ⟨D, 1, none⟩ = false := blk_free HRB.out 1
          have z2 : w3.frozen? ⟨D, 2, none⟩ = false := blk_free HRB.out 2
          have z3 : w3.frozen? ⟨D, 3, none⟩ = false := blk_free HRB.out 3
          obtain ⟨V, hV⟩ : ∃ V, V = (((w3.setCell ⟨D, 0, none⟩ (.int .i64 x.s.kd)).setCell ⟨D, 1, none⟩ (.string (bs x.s.val))).setCell ⟨D, 2, none⟩ (.int .i64 x.s.ver)).setCell ⟨D, 3, none⟩ (.slice ko x.s.ks.length kc) := ⟨_, rfl⟩
          have BF : Hid (V.heap[D]? = some (.cells #[.int .i64 x.s.kd, .string (bs x.s.val), .int .i64 x.s.ver, .slice ko x.s.ks.length kc] 55 (0, 0))) := by rw [hV]; exact blk_set (blk_set (blk_set (blk_set HRB.out 0 _) 1 _) 2 _) 3 _
          have LV : Hid (Led w0 V b ps (es.set i x1) tm ap (some ⟨g, 0, none⟩) cp cs) := by rw [hV]; exact HLB.out.res HRB.out HD.out.2 _ _ _ _
          have KV : Hid (Kept (TX b) w V) := by rw [hV]; exact kept_res (kept_res (kept_res (kept_res KB.out HD.out.1 _) HD.out.1 _) HD.out.1 _) HD.out.1 _
          have OV : Hid (OwnK w.heap.size V ko kc x.s.ks) := by rw [hV]; exact own_mono (ownsRow_setCell_below (a := ⟨D, 3, none⟩) (ownsRow_setCell_below (a := ⟨D, 2, none⟩) (ownsRow_setCell_below (a := ⟨D, 1, none⟩) (ownsRow_setCell_below (a := ⟨D, 0, none⟩) HO3.out HSZ.out.2 _) HSZ.out.2 _) HSZ.out.2 _) HSZ.out.2 _) HSZ.out.1
          go_wp2
          rw [← hV]
          clear hV
          have j0 : V.cell? ⟨D, 0, none⟩ = some (.int .i64 x.s.kd) := blk_at BF.out 0 rfl
          have j1 : V.cell? ⟨D, 1, none⟩ = some (.string (bs x.s.val)) := blk_at BF.out 1 rfl
          have j2 : V.cell? ⟨D, 2, none⟩ = some (.int .i64 x.s.ver) := blk_at BF.out 2 rfl
          have j3 : V.cell? ⟨D, 3, none⟩ = some (.slice ko x.s.ks.length kc) := blk_at BF.out 3 rfl
          refine bodyPost_ret (v := .agg #[.int .i64 x.s.kd, .string (bs x.s.val), .int .i64 x.s.ver, .slice ko x.s.ks.length kc]) (by simp [results, Try.results127, go_sem, j0, j1, j2, j3]) rfl ?_
          rw [HE.out]
          exact ⟨ap, cp, (es.set i x1), ko, kc, rfl, LV.out, HM1.out, OV.out, KV.out, apart_new HLA.out.ok HO3.out⟩
