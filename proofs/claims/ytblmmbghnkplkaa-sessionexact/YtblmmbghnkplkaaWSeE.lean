/-
  Sessions: a request is run on a ledger.
-/
import Derived.Test.YtblmmbghnkplkaaWSeD
namespace Go.Proofs.Ytblmmbghnkplkaa
open Go.RowKit

/-- A request is run. -/
def runT (ps : List Pr) (ss : List Ss) (tm cl nu kd : Int) (key val : List UInt8) (m ix : Int) : List Pr × List Ss × Rr := if cl = 0 then openT ps ss tm ix else servT ps ss tm cl nu kd key val m

set_option maxRecDepth 100000 in
set_option maxHeartbeats 2000000 in
theorem runO_any (w0 w : World) (b cp cs : Nat) (ps : List Pr) (es : List Se) (tm cl nu kd m tq ix : Int) (key val : List UInt8) (ap sa : Option Addr) (h : Led w0 w b ps es tm ap sa cp cs) (hs : SrtE es) (hl : es.length ≤ 8) (h0 : cl = 0) :
    Calls Try.prog 86 #[.pointer (some ⟨b, 0, none⟩), .agg #[.int .i64 cl, .int .i64 nu, .int .i64 kd, .string (bs key), .string (bs val), .int .i64 m, .int .i64 tq], .int .i64 ix] w (LedPost w0 w b tm (openT ps (es.map Se.s) tm ix)) := by
  subst h0
  obtain ⟨W, hW⟩ : ∃ W, W = (w.alloc (.cells #[.int .i64 0, .int .i64 nu, .int .i64 kd, .string (bs key), .string (bs val), .int .i64 m, .int .i64 tq] 75)).alloc (.cells #[.int .i64 0, .string ⟨#[]⟩, .int .i64 0, .slice none 0 0] 55) := ⟨_, rfl⟩
  obtain ⟨C, HCe⟩ : ∃ C, Hid (C = w.heap.size) := ⟨_, rfl⟩
  obtain ⟨D, HDe⟩ : ∃ D, Hid (D = w.heap.size + 1) := ⟨_, rfl⟩
  have HQ : Hid (W.heap[C]? = some (.cells #[.int .i64 0, .int .i64 nu, .int .i64 kd, .string (bs key), .string (bs val), .int .i64 m, .int .i64 tq] 75 (0, 0))) := by rw [hW, HCe.out]; exact blk_past (blk_new _ _) _
  have HR : Hid (W.heap[D]? = some (.cells #[.int .i64 0, .string ⟨#[]⟩, .int .i64 0, .slice none 0 0] 55 (0, 0))) := by
    rw [hW, HDe.out]
    have := blk_new (w.alloc (.cells #[.int .i64 0, .int .i64 nu, .int .i64 kd, .string (bs key), .string (bs val), .int .i64 m, .int .i64 tq] 75)) (.cells #[.int .i64 0, .string ⟨#[]⟩, .int .i64 0, .slice none 0 0] 55)
    show _ = _
    simpa using this
  have HLW : Hid (Led w0 W b ps es tm ap sa cp cs) := by rw [hW]; exact h.next (((Kept.refl _ _).alloc _).alloc _)
  have KW : Hid (Kept (TX b) w W) := by rw [hW]; exact ((Kept.refl _ _).alloc _).alloc _
  have HD : Hid (w.heap.size ≤ D ∧ w0.heap.size ≤ D) := by have h1 := HDe.out; have h2 := h.kept.size; exact ⟨by omega, by omega⟩
  have HDb : Hid (D ≠ b) := by have h1 := HDe.out; have h2 := lt_of_block h.blk; show D ≠ b; omega
  have q0 : W.cell? ⟨C, 0, none⟩ = some (.int .i64 0) := blk_at HQ.out 0 rfl
  have CT := open_any w0 W b cp cs ps es tm ix ap sa HLW.out hs hl
  generalize openT ps (es.map Se.s) tm ix = R at *
  obtain ⟨P1, S1, r⟩ := R
  clear h hs
  go_enter Try.func86, Try.ntmps86
  go_upto_region 1 with fail
  rw [← hW, ← HDe.out, ← HCe.out]
  clear hW
  go_wp2_with fail
  go_fit CT
  rintro _ w1 ⟨ap', cp', sa', cs', es', ko, kc, rfl, l1, m1, o1, k1, a1⟩
  have HA1 : Hid (Apart es' ko r.ks.length kc) := a1
  have HL1 : Hid (Led w0 w1 b P1 es' tm ap' sa' cp' cs') := l1
  have HM1 : Hid (es'.map Se.s = S1) := m1
  have HO1 : Hid (OwnK W.heap.size w1 ko kc r.ks) := o1
  have HR1 : Hid (w1.heap[D]? = some (.cells #[.int .i64 0, .string ⟨#[]⟩, .int .i64 0, .slice none 0 0] 55 (0, 0))) := k1.block _ _ HR.out (not_TX HDb.out (by decide) (by decide))
  have K1 : Hid (Kept (TX b) w w1) := KW.out.trans k1
  have HSZ : Hid (w.heap.size ≤ W.heap.size ∧ D < W.heap.size) := ⟨KW.out.size, lt_of_block HR.out⟩
  clear l1 m1 o1 k1 a1 CT q0 HLW KW HR HQ
  unfold rrV
  have r0 : w1.cell? ⟨D, 0, none⟩ = some (.int .i64 0) := blk_at HR1.out 0 rfl
  have r1 : w1.cell? ⟨D, 1, none⟩ = some (.string ⟨#[]⟩) := blk_at HR1.out 1 rfl
  have r2 : w1.cell? ⟨D, 2, none⟩ = some (.int .i64 0) := blk_at HR1.out 2 rfl
  have r3 : w1.cell? ⟨D, 3, none⟩ = some (.slice none 0 0) := blk_at HR1.out 3 rfl
  have z0 : w1.frozen? ⟨D, 0, none⟩ = false := blk_free HR1.out 0
  have z1 : w1.frozen? ⟨D, 1, none⟩ = false := blk_free HR1.out 1
  have z2 : w1.frozen? ⟨D, 2, none⟩ = false := blk_free HR1.out 2
  have z3 : w1.frozen? ⟨D, 3, none⟩ = false := blk_free HR1.out 3
  obtain ⟨V, hV⟩ : ∃ V, V = (((w1.setCell ⟨D, 0, none⟩ (.int .i64 r.kd)).setCell ⟨D, 1, none⟩ (.string (bs r.v))).setCell ⟨D, 2, none⟩ (.int .i64 r.n)).setCell ⟨D, 3, none⟩ (.slice ko r.ks.length kc) := ⟨_, rfl⟩
  have BF : Hid (V.heap[D]? = some (.cells #[.int .i64 r.kd, .string (bs r.v), .int .i64 r.n, .slice ko r.ks.length kc] 55 (0, 0))) := by rw [hV]; exact blk_set (blk_set (blk_set (blk_set HR1.out 0 _) 1 _) 2 _) 3 _
  have LV : Hid (Led w0 V b P1 es' tm ap' sa' cp' cs') := by rw [hV]; exact HL1.out.res HR1.out HD.out.2 _ _ _ _
  have KV : Hid (Kept (TX b) w V) := by rw [hV]; exact kept_res (kept_res (kept_res (kept_res K1.out HD.out.1 _) HD.out.1 _) HD.out.1 _) HD.out.1 _
  have OV : Hid (OwnK w.heap.size V ko kc r.ks) := by rw [hV]; exact own_mono (ownsRow_setCell_below (a := ⟨D, 3, none⟩) (ownsRow_setCell_below (a := ⟨D, 2, none⟩) (ownsRow_setCell_below (a := ⟨D, 1, none⟩) (ownsRow_setCell_below (a := ⟨D, 0, none⟩) HO1.out HSZ.out.2 _) HSZ.out.2 _) HSZ.out.2 _) HSZ.out.2 _) HSZ.out.1
  go_wp2
  rw [← hV]
  clear hV
  have j0 : V.cell? ⟨D, 0, none⟩ = some (.int .i64 r.kd) := blk_at BF.out 0 rfl
  have j1 : V.cell? ⟨D, 1, none⟩ = some (.string (bs r.v)) := blk_at BF.out 1 rfl
  have j2 : V.cell? ⟨D, 2, none⟩ = some (.int .i64 r.n) := blk_at BF.out 2 rfl
  have j3 : V.cell? ⟨D, 3, none⟩ = some (.slice ko r.ks.length kc) := blk_at BF.out 3 rfl
  refine bodyPost_ret (v := rrV r ko kc) (by simp [results, Try.results86, go_sem, rrV, j0, j1, j2, j3]) rfl ?_
  exact ⟨ap', cp', sa', cs', es', ko, kc, rfl, LV.out, HM1.out, OV.out, KV.out, HA1.out⟩

set_option maxRecDepth 100000 in
set_option maxHeartbeats 2000000 in
theorem runS_any (w0 w : World) (b cp cs : Nat) (ps : List Pr) (es : List Se) (tm cl nu kd m tq ix : Int) (key val : List UInt8) (ap sa : Option Addr) (h : Led w0 w b ps es tm ap sa cp cs) (hs : SrtE es) (hl : es.length ≤ 8) (hls : ∀ e ∈ es, 0 ≤ e.s.ls ∧ e.s.ls ≤ 1099511627775) (hks : ∀ e ∈ es, e.s.ks.length ≤ 1048576 ∧ ∀ k ∈ e.s.ks, k.length ≤ maxLen) (hf : Fit ps) (hpl : ps.length ≤ 32) (hkey : key.length ≤ maxLen) (hval : val.length ≤ maxLen) (hrk : (apR kd key val m ps).ks.length ≤ 1048576 ∧ ∀ k ∈ (apR kd key val m ps).ks, k.length ≤ maxLen) (hnu : 0 ≤ nu ∧ nu ≤ 1099511627775) (h0 : cl ≠ 0) :
    Calls Try.prog 86 #[.pointer (some ⟨b, 0, none⟩), .agg #[.int .i64 cl, .int .i64 nu, .int .i64 kd, .string (bs key), .string (bs val), .int .i64 m, .int .i64 tq], .int .i64 ix] w (LedPost w0 w b tm (servT ps (es.map Se.s) tm cl nu kd key val m)) := by
  have hb0 : (cl == 0) = false := beq_eq_false_iff_ne.2 h0
  obtain ⟨W, hW⟩ : ∃ W, W = (w.alloc (.cells #[.int .i64 cl, .int .i64 nu, .int .i64 kd, .string (bs key), .string (bs val), .int .i64 m, .int .i64 tq] 75)).alloc (.cells #[.int .i64 0, .string ⟨#[]⟩, .int .i64 0, .slice none 0 0] 55) := ⟨_, rfl⟩
  obtain ⟨C, HCe⟩ : ∃ C, Hid (C = w.heap.size) := ⟨_, rfl⟩
  obtain ⟨D, HDe⟩ : ∃ D, Hid (D = w.heap.size + 1) := ⟨_, rfl⟩
  have HQ : Hid (W.heap[C]? = some (.cells #[.int .i64 cl, .int .i64 nu, .int .i64 kd, .string (bs key), .string (bs val), .int .i64 m, .int .i64 tq] 75 (0, 0))) := by rw [hW, HCe.out]; exact blk_past (blk_new _ _) _
  have HR : Hid (W.heap[D]? = some (.cells #[.int .i64 0, .string ⟨#[]⟩, .int .i64 0, .slice none 0 0] 55 (0, 0))) := by
    rw [hW, HDe.out]
    have := blk_new (w.alloc (.cells #[.int .i64 cl, .int .i64 nu, .int .i64 kd, .string (bs key), .string (bs val), .int .i64 m, .int .i64 tq] 75)) (.cells #[.int .i64 0, .string ⟨#[]⟩, .int .i64 0, .slice none 0 0] 55)
    show _ = _
    simpa using this
  have HLW : Hid (Led w0 W b ps es tm ap sa cp cs) := by rw [hW]; exact h.next (((Kept.refl _ _).alloc _).alloc _)
  have KW : Hid (Kept (TX b) w W) := by rw [hW]; exact ((Kept.refl _ _).alloc _).alloc _
  have HD : Hid (w.heap.size ≤ D ∧ w0.heap.size ≤ D) := by have h1 := HDe.out; have h2 := h.kept.size; exact ⟨by omega, by omega⟩
  have HDb : Hid (D ≠ b) := by have h1 := HDe.out; have h2 := lt_of_block h.blk; show D ≠ b; omega
  have q0 : W.cell? ⟨C, 0, none⟩ = some (.int .i64 cl) := blk_at HQ.out 0 rfl
  have CT : Calls Try.prog 127 #[.pointer (some ⟨b, 0, none⟩), .agg #[.int .i64 cl, .int .i64 nu, .int .i64 kd, .string (bs key), .string (bs val), .int .i64 m, .int .i64 tq]] W (LedPost w0 W b tm (servT ps (es.map Se.s) tm cl nu kd key val m)) := by
    cases hyes : isE cl es with
    | true => exact (serveB_any w0 W b cp cs ps es tm cl nu kd m tq key val ap sa HLW.out hs hl hls hks hyes hf hpl hkey hval hrk hnu).mono fun _ _ h => h.led
    | false => exact (serveA_any w0 W b cp cs ps es tm cl nu kd m tq key val ap sa HLW.out hs hl hls hks hyes).mono fun _ _ h => h.led
  clear hls hks hf hpl hkey hval hrk hnu
  generalize servT ps (es.map Se.s) tm cl nu kd key val m = R at *
  obtain ⟨P1, S1, r⟩ := R
  have c1 : W.cell? ⟨C, 1, none⟩ = some (.int .i64 nu) := blk_at HQ.out 1 rfl
  have c2 : W.cell? ⟨C, 2, none⟩ = some (.int .i64 kd) := blk_at HQ.out 2 rfl
  have c3 : W.cell? ⟨C, 3, none⟩ = some (.string (bs key)) := blk_at HQ.out 3 rfl
  have c4 : W.cell? ⟨C, 4, none⟩ = some (.string (bs val)) := blk_at HQ.out 4 rfl
  have c5 : W.cell? ⟨C, 5, none⟩ = some (.int .i64 m) := blk_at HQ.out 5 rfl
  have c6 : W.cell? ⟨C, 6, none⟩ = some (.int .i64 tq) := blk_at HQ.out 6 rfl
  clear h hs
  go_enter Try.func86, Try.ntmps86
  go_upto_region 1 with fail
  rw [← hW, ← HDe.out, ← HCe.out]
  clear hW
  go_wp2_with fail
  go_fit CT
  rintro _ w1 ⟨ap', cp', sa', cs', es', ko, kc, rfl, l1, m1, o1, k1, a1⟩
  have HA1 : Hid (Apart es' ko r.ks.length kc) := a1
  have HL1 : Hid (Led w0 w1 b P1 es' tm ap' sa' cp' cs') := l1
  have HM1 : Hid (es'.map Se.s = S1) := m1
  have HO1 : Hid (OwnK W.heap.size w1 ko kc r.ks) := o1
  have HR1 : Hid (w1.heap[D]? = some (.cells #[.int .i64 0, .string ⟨#[]⟩, .int .i64 0, .slice none 0 0] 55 (0, 0))) := k1.block _ _ HR.out (not_TX HDb.out (by decide) (by decide))
  have K1 : Hid (Kept (TX b) w w1) := KW.out.trans k1
  have HSZ : Hid (w.heap.size ≤ W.heap.size ∧ D < W.heap.size) := ⟨KW.out.size, lt_of_block HR.out⟩
  clear l1 m1 o1 k1 a1 CT c1 c2 c3 c4 c5 c6 q0 HLW KW HR HQ
  unfold rrV
  have r0 : w1.cell? ⟨D, 0, none⟩ = some (.int .i64 0) := blk_at HR1.out 0 rfl
  have r1 : w1.cell? ⟨D, 1, none⟩ = some (.string ⟨#[]⟩) := blk_at HR1.out 1 rfl
  have r2 : w1.cell? ⟨D, 2, none⟩ = some (.int .i64 0) := blk_at HR1.out 2 rfl
  have r3 : w1.cell? ⟨D, 3, none⟩ = some (.slice none 0 0) := blk_at HR1.out 3 rfl
  have z0 : w1.frozen? ⟨D, 0, none⟩ = false := blk_free HR1.out 0
  have z1 : w1.frozen? ⟨D, 1, none⟩ = false := blk_free HR1.out 1
  have z2 : w1.frozen? ⟨D, 2, none⟩ = false := blk_free HR1.out 2
  have z3 : w1.frozen? ⟨D, 3, none⟩ = false := blk_free HR1.out 3
  obtain ⟨V, hV⟩ : ∃ V, V = (((w1.setCell ⟨D, 0, none⟩ (.int .i64 r.kd)).setCell ⟨D, 1, none⟩ (.string (bs r.v))).setCell ⟨D, 2, none⟩ (.int .i64 r.n)).setCell ⟨D, 3, none⟩ (.slice ko r.ks.length kc) := ⟨_, rfl⟩
  have BF : Hid (V.heap[D]? = some (.cells #[.int .i64 r.kd, .string (bs r.v), .int .i64 r.n, .slice ko r.ks.length kc] 55 (0, 0))) := by rw [hV]; exact blk_set (blk_set (blk_set (blk_set HR1.out 0 _) 1 _) 2 _) 3 _
  have LV : Hid (Led w0 V b P1 es' tm ap' sa' cp' cs') := by rw [hV]; exact HL1.out.res HR1.out HD.out.2 _ _ _ _
  have KV : Hid (Kept (TX b) w V) := by rw [hV]; exact kept_res (kept_res (kept_res (kept_res K1.out HD.out.1 _) HD.out.1 _) HD.out.1 _) HD.out.1 _
  have OV : Hid (OwnK w.heap.size V ko kc r.ks) := by rw [hV]; exact own_mono (ownsRow_setCell_below (a := ⟨D, 3, none⟩) (ownsRow_setCell_below (a := ⟨D, 2, none⟩) (ownsRow_setCell_below (a := ⟨D, 1, none⟩) (ownsRow_setCell_below (a := ⟨D, 0, none⟩) HO1.out HSZ.out.2 _) HSZ.out.2 _) HSZ.out.2 _) HSZ.out.2 _) HSZ.out.1
  go_wp2
  rw [← hV]
  clear hV
  have j0 : V.cell? ⟨D, 0, none⟩ = some (.int .i64 r.kd) := blk_at BF.out 0 rfl
  have j1 : V.cell? ⟨D, 1, none⟩ = some (.string (bs r.v)) := blk_at BF.out 1 rfl
  have j2 : V.cell? ⟨D, 2, none⟩ = some (.int .i64 r.n) := blk_at BF.out 2 rfl
  have j3 : V.cell? ⟨D, 3, none⟩ = some (.slice ko r.ks.length kc) := blk_at BF.out 3 rfl
  refine bodyPost_ret (v := rrV r ko kc) (by simp [results, Try.results86, go_sem, rrV, j0, j1, j2, j3]) rfl ?_
  exact ⟨ap', cp', sa', cs', es', ko, kc, rfl, LV.out, HM1.out, OV.out, KV.out, HA1.out⟩

end Go.Proofs.Ytblmmbghnkplkaa
