/-
  Sessions: a session is opened: the walk.
-/
import Derived.Test.YtblmmbghnkplkaaWOld2
import Derived.Deep.DeepCutAuto
namespace Go.Proofs.Ytblmmbghnkplkaa
open Go.RowKit

/-- What comes of a call on a ledger. -/
def LedPost (w0 w : World) (b : Nat) (tm : Int) (R : List Pr × List Ss × Rr) (e : Ending) (w' : World) : Prop :=
  ∃ ap' cp' sa' cs' es' ko kc, e = .returned (rrV R.2.2 ko kc) ∧ Led w0 w' b R.1 es' tm ap' sa' cp' cs' ∧ es'.map Se.s = R.2.1 ∧ OwnK w.heap.size w' ko kc R.2.2.ks ∧ Kept (TX b) w w' ∧ Apart es' ko R.2.2.ks.length kc
theorem ServPost.led {w0 w w' : World} {b cs : Nat} {sa : Option Addr} {tm : Int} {R : List Pr × List Ss × Rr} {e : Ending} (h : ServPost w0 w b cs sa tm R e w') : LedPost w0 w b tm R e w' := by
  obtain ⟨ap', cp', es', ko, kc, h1, h2, h3, h4, h5⟩ := h
  exact ⟨ap', cp', sa, cs, es', ko, kc, h1, h2, h3, h4, h5⟩
theorem not_TX {b k : Nat} {t : TypeId} {cs : Array Value} {fr : Nat × Nat} (hb : k ≠ b) (h1 : t ≠ 121) (h2 : t ≠ 61) : ¬ TX b k (.cells cs t fr) := fun h => by
  rcases h with h | ⟨cs', fr', h⟩ | ⟨cs', fr', h⟩
  · exact hb h
  · simp at h
    exact h1 h.2.1
  · simp at h
    exact h2 h.2.1
theorem room_srt {es : List Se} (h : SrtE es) : SrtE (roomE es) := by
  unfold roomE
  split
  · exact h
  · exact List.Pairwise.filter _ h
theorem room_len {es : List Se} (h : es.length ≤ 8) : (roomE es).length ≤ 8 := by
  unfold roomE
  split
  · exact h
  · exact Nat.le_trans (List.length_filter_le _ _) h
theorem grown_blkE {w w' : World} {sa : Option Addr} {n c : Nat} (h : w.grownBy w' (Value.slice sa n c).ownBlock) : Kept (BlkE sa) w w' :=
  ⟨h.os, h.tape, h.output, h.size, fun k o ho hx => by
    rw [h.block k (lt_of_block ho) (fun e => hx (by
      cases sa with
      | none => simp [Value.ownBlock] at e
      | some a => exact ⟨a, rfl, by simpa [Value.ownBlock] using e.symm⟩))]
    exact ho⟩
theorem ins_mem {i : Nat} {x e : Se} {es : List Se} (h : e ∈ insE i x es) : e ∈ es ∨ e = x := by
  unfold insE at h
  rcases List.mem_append.1 h with h | h
  · exact .inl (List.mem_of_mem_take h)
  · rcases List.mem_cons.1 h with h | h
    · exact .inr h
    · exact .inl (List.mem_of_mem_drop h)
theorem ints1o (w : World) (x : Int) : IntsAt (w.alloc (.cells #[.int .i64 x] 3)) w.heap.size [x] := by
  intro j hj
  have hj0 : j = 0 := by simp at hj; omega
  subst hj0
  exact blk_at (blk_new w (.cells #[.int .i64 x] 3)) 0 rfl

set_option maxRecDepth 100000 in
set_option maxHeartbeats 4000000 in
theorem open_any (w0 w : World) (b cp cs : Nat) (ps : List Pr) (es : List Se) (tm cl : Int) (ap sa : Option Addr) (h : Led w0 w b ps es tm ap sa cp cs) (hs : SrtE es) (hl : es.length ≤ 8) :
    Calls Try.prog 126 #[.pointer (some ⟨b, 0, none⟩), .int .i64 cl] w (LedPost w0 w b tm (openT ps (es.map Se.s) tm cl)) := by
  obtain ⟨R, HRR⟩ : ∃ R, Hid (R = openT ps (es.map Se.s) tm cl) := ⟨_, rfl⟩
  rw [← HRR.out]
  obtain ⟨W, hW⟩ : ∃ W, W = w.alloc (.cells #[.int .i64 0, .string ⟨#[]⟩, .int .i64 0, .slice none 0 0] 55) := ⟨_, rfl⟩
  obtain ⟨D, HDe⟩ : ∃ D, Hid (D = w.heap.size) := ⟨_, rfl⟩
  have HR : Hid (W.heap[D]? = some (.cells #[.int .i64 0, .string ⟨#[]⟩, .int .i64 0, .slice none 0 0] 55 (0, 0))) := by rw [hW, HDe.out]; exact blk_new _ _
  have HLW : Hid (Led w0 W b ps es tm ap sa cp cs) := by rw [hW]; exact h.next ((Kept.refl _ _).alloc _)
  have KW : Hid (Kept (TX b) w W) := by rw [hW]; exact (Kept.refl _ _).alloc _
  have HD : Hid (w.heap.size ≤ D ∧ w0.heap.size ≤ D) := by have h1 := HDe.out; have h2 := h.kept.size; exact ⟨by omega, by omega⟩
  have HDb : Hid (D ≠ b) := by have h1 := HDe.out; have h2 := lt_of_block h.blk; show D ≠ b; omega
  have FI := findL_any w0 W b cp cs ps es tm cl ap sa HLW.out hs hl
  have HSR : Hid (SrtE es) := hs
  clear h hs
  cases hyes : isE cl es with
  | true =>
    have HE : Hid (R = (ps, es.map Se.s, rr0 5)) := by
      show _ = _
      rw [HRR.out]
      unfold openT
      rw [if_pos (.inl (by rw [← isE_map]; exact hyes))]
    rw [hyes] at FI
    go_enter Try.func126, Try.ntmps126
    go_upto_region 1 with fail
    rw [← hW, ← HDe.out]
    clear hW
    go_wp2_with fail
    go_fit FI
    rintro _ w1 ⟨rfl, k1⟩
    have HL1 : Hid (Led w0 w1 b ps es tm ap sa cp cs) := HLW.out.next k1
    have HR1 : Hid (w1.heap[D]? = some (.cells #[.int .i64 0, .string ⟨#[]⟩, .int .i64 0, .slice none 0 0] 55 (0, 0))) := k1.block _ _ HR.out (fun x => x.elim)
    have K1 : Hid (Kept (TX b) w w1) := KW.out.trans (k1.mono (fun _ _ x => x.elim))
    clear k1 FI HLW HR KW
    have r0 : w1.cell? ⟨D, 0, none⟩ = some (.int .i64 0) := blk_at HR1.out 0 rfl
    have r1 : w1.cell? ⟨D, 1, none⟩ = some (.string ⟨#[]⟩) := blk_at HR1.out 1 rfl
    have r2 : w1.cell? ⟨D, 2, none⟩ = some (.int .i64 0) := blk_at HR1.out 2 rfl
    have r3 : w1.cell? ⟨D, 3, none⟩ = some (.slice none 0 0) := blk_at HR1.out 3 rfl
    have z0 : w1.frozen? ⟨D, 0, none⟩ = false := blk_free HR1.out 0
    have z1 : w1.frozen? ⟨D, 1, none⟩ = false := blk_free HR1.out 1
    have z2 : w1.frozen? ⟨D, 2, none⟩ = false := blk_free HR1.out 2
    have z3 : w1.frozen? ⟨D, 3, none⟩ = false := blk_free HR1.out 3
    obtain ⟨V, hV⟩ : ∃ V, V = (((w1.setCell ⟨D, 0, none⟩ (.int .i64 5)).setCell ⟨D, 1, none⟩ (.string ⟨#[]⟩)).setCell ⟨D, 2, none⟩ (.int .i64 0)).setCell ⟨D, 3, none⟩ (.slice none 0 0) := ⟨_, rfl⟩
    have BF : Hid (V.heap[D]? = some (.cells #[.int .i64 5, .string ⟨#[]⟩, .int .i64 0, .slice none 0 0] 55 (0, 0))) := by rw [hV]; exact blk_set (blk_set (blk_set (blk_set HR1.out 0 _) 1 _) 2 _) 3 _
    have LV : Hid (Led w0 V b ps es tm ap sa cp cs) := by rw [hV]; exact HL1.out.res HR1.out HD.out.2 _ _ _ _
    have KV : Hid (Kept (TX b) w V) := by rw [hV]; exact kept_res (kept_res (kept_res (kept_res K1.out HD.out.1 _) HD.out.1 _) HD.out.1 _) HD.out.1 _
    go_wp2
    rw [← hV]
    clear hV
    have j0 : V.cell? ⟨D, 0, none⟩ = some (.int .i64 5) := blk_at BF.out 0 rfl
    have j1 : V.cell? ⟨D, 1, none⟩ = some (.string ⟨#[]⟩) := blk_at BF.out 1 rfl
    have j2 : V.cell? ⟨D, 2, none⟩ = some (.int .i64 0) := blk_at BF.out 2 rfl
    have j3 : V.cell? ⟨D, 3, none⟩ = some (.slice none 0 0) := blk_at BF.out 3 rfl
    refine bodyPost_ret (v := rrV (rr0 5) none 0) (by simp [results, Try.results126, go_sem, rrV, rr0, bs, j0, j1, j2, j3]) rfl ?_
    rw [HE.out]
    exact ⟨ap, cp, sa, cs, es, none, 0, rfl, LV.out, rfl, World.ownsRow_nil _ _ _ _, KV.out, apart_none _⟩
  | false =>
    rw [hyes] at FI
    go_enter Try.func126, Try.ntmps126
    go_upto_region 1 with fail
    rw [← hW, ← HDe.out]
    clear hW
    go_wp2_with fail
    go_fit FI
    rintro _ w1 ⟨rfl, k1⟩
    have HL1 : Hid (Led w0 w1 b ps es tm ap sa cp cs) := HLW.out.next k1
    have HR1 : Hid (w1.heap[D]? = some (.cells #[.int .i64 0, .string ⟨#[]⟩, .int .i64 0, .slice none 0 0] 55 (0, 0))) := k1.block _ _ HR.out (fun x => x.elim)
    have K1 : Hid (Kept (TX b) w w1) := KW.out.trans (k1.mono (fun _ _ x => x.elim))
    clear k1 FI HLW HR KW
    have r0 : w1.cell? ⟨D, 0, none⟩ = some (.int .i64 0) := blk_at HR1.out 0 rfl
    have r1 : w1.cell? ⟨D, 1, none⟩ = some (.string ⟨#[]⟩) := blk_at HR1.out 1 rfl
    have r2 : w1.cell? ⟨D, 2, none⟩ = some (.int .i64 0) := blk_at HR1.out 2 rfl
    have r3 : w1.cell? ⟨D, 3, none⟩ = some (.slice none 0 0) := blk_at HR1.out 3 rfl
    have z0 : w1.frozen? ⟨D, 0, none⟩ = false := blk_free HR1.out 0
    have z1 : w1.frozen? ⟨D, 1, none⟩ = false := blk_free HR1.out 1
    have z2 : w1.frozen? ⟨D, 2, none⟩ = false := blk_free HR1.out 2
    have z3 : w1.frozen? ⟨D, 3, none⟩ = false := blk_free HR1.out 3
    have CN := areCounts_any w1.heap.size 1 [cl] (w1.alloc (.cells #[.int .i64 cl] 3)) (ints1o w1 cl) (by simp)
    rw [show fromTo 1 [cl] = isCnt cl by simp [fromTo, isCnt]] at CN
    obtain ⟨X, hX⟩ : ∃ X, X = w1.alloc (.cells #[.int .i64 cl] 3) := ⟨_, rfl⟩
    have HLX : Hid (Led w0 X b ps es tm ap sa cp cs) := by rw [hX]; exact HL1.out.next ((Kept.refl _ _).alloc _)
    have HRX : Hid (X.heap[D]? = some (.cells #[.int .i64 0, .string ⟨#[]⟩, .int .i64 0, .slice none 0 0] 55 (0, 0))) := by rw [hX]; exact blk_past HR1.out _
    have KX : Hid (Kept (TX b) w X) := by rw [hX]; exact K1.out.alloc _
    rw [← hX] at CN
    cases hcnt : isCnt cl with
    | false =>
      have HE : Hid (R = (ps, es.map Se.s, rr0 5)) := by
        show _ = _
        rw [HRR.out]
        unfold openT
        rw [if_pos (.inr hcnt)]
      rw [hcnt] at CN
      go_wp2_with fail
      rw [← hX]
      clear hX r0 r1 r2 r3 z0 z1 z2 z3 HL1 HR1 K1
      go_fit CN
      rintro _ w9 ⟨rfl, h9⟩
      rw [h9]
      clear h9
      have r0 : X.cell? ⟨D, 0, none⟩ = some (.int .i64 0) := blk_at HRX.out 0 rfl
      have r1 : X.cell? ⟨D, 1, none⟩ = some (.string ⟨#[]⟩) := blk_at HRX.out 1 rfl
      have r2 : X.cell? ⟨D, 2, none⟩ = some (.int .i64 0) := blk_at HRX.out 2 rfl
      have r3 : X.cell? ⟨D, 3, none⟩ = some (.slice none 0 0) := blk_at HRX.out 3 rfl
      have z0 : X.frozen? ⟨D, 0, none⟩ = false := blk_free HRX.out 0
      have z1 : X.frozen? ⟨D, 1, none⟩ = false := blk_free HRX.out 1
      have z2 : X.frozen? ⟨D, 2, none⟩ = false := blk_free HRX.out 2
      have z3 : X.frozen? ⟨D, 3, none⟩ = false := blk_free HRX.out 3
      obtain ⟨V, hV⟩ : ∃ V, V = (((X.setCell ⟨D, 0, none⟩ (.int .i64 5)).setCell ⟨D, 1, none⟩ (.string ⟨#[]⟩)).setCell ⟨D, 2, none⟩ (.int .i64 0)).setCell ⟨D, 3, none⟩ (.slice none 0 0) := ⟨_, rfl⟩
      have BF : Hid (V.heap[D]? = some (.cells #[.int .i64 5, .string ⟨#[]⟩, .int .i64 0, .slice none 0 0] 55 (0, 0))) := by rw [hV]; exact blk_set (blk_set (blk_set (blk_set HRX.out 0 _) 1 _) 2 _) 3 _
      have LV : Hid (Led w0 V b ps es tm ap sa cp cs) := by rw [hV]; exact HLX.out.res HRX.out HD.out.2 _ _ _ _
      have KV : Hid (Kept (TX b) w V) := by rw [hV]; exact kept_res (kept_res (kept_res (kept_res KX.out HD.out.1 _) HD.out.1 _) HD.out.1 _) HD.out.1 _
      go_wp2
      rw [← hV]
      clear hV
      have j0 : V.cell? ⟨D, 0, none⟩ = some (.int .i64 5) := blk_at BF.out 0 rfl
      have j1 : V.cell? ⟨D, 1, none⟩ = some (.string ⟨#[]⟩) := blk_at BF.out 1 rfl
      have j2 : V.cell? ⟨D, 2, none⟩ = some (.int .i64 0) := blk_at BF.out 2 rfl
      have j3 : V.cell? ⟨D, 3, none⟩ = some (.slice none 0 0) := blk_at BF.out 3 rfl
      refine bodyPost_ret (v := rrV (rr0 5) none 0) (by simp [results, Try.results126, go_sem, rrV, rr0, bs, j0, j1, j2, j3]) rfl ?_
      rw [HE.out]
      exact ⟨ap, cp, sa, cs, es, none, 0, rfl, LV.out, rfl, World.ownsRow_nil _ _ _ _, KV.out, apart_none _⟩
    | true =>
      rw [hcnt] at CN
      obtain ⟨zs, HZ⟩ : ∃ zs, Hid (zs = roomE es) := ⟨_, rfl⟩
      have HZ8 : Hid (zs.length ≤ 8 ∧ SrtE zs) := by rw [HZ.out]; exact ⟨room_len hl, room_srt HSR.out⟩
      obtain ⟨i, HI⟩ : ∃ i, Hid (i = lowE cl zs) := ⟨_, rfl⟩
      obtain ⟨x, HXe⟩ : ∃ x : Se, Hid (x = ⟨newS cl tm, none, 0⟩) := ⟨_, rfl⟩
      have HE : Hid (R = (ps, (insE i x zs).map Se.s, ⟨1, [], cl, []⟩)) := by
        show _ = _
        rw [HRR.out]
        unfold openT
        rw [if_neg (by rw [← isE_map, hyes, hcnt]; simp), insE_map, HXe.out, HI.out, lowE_map, HZ.out, roomE_map]
      have MR := makeRoom_any w0 X b cp cs ps es tm ap sa HLX.out hl
      rw [← HZ.out] at MR
      go_wp2_with fail
      rw [← hX]
      clear hX r0 r1 r2 r3 z0 z1 z2 z3 HL1 HR1 K1
      go_fit CN
      rintro _ _ ⟨rfl, rfl⟩
      go_wp2_with fail
      go_fit MR
      rintro _ w2 ⟨rfl, l2, k2⟩
      have HL2 : Hid (Led w0 w2 b ps zs tm ap sa cp cs) := l2
      have K2 : Hid (Kept (TX b) w w2) := KX.out.trans k2
      have HR2 : Hid (w2.heap[D]? = some (.cells #[.int .i64 0, .string ⟨#[]⟩, .int .i64 0, .slice none 0 0] 55 (0, 0))) := k2.block _ _ HRX.out (not_TX HDb.out (by decide) (by decide))
      clear l2 k2 MR CN HLX HRX KX
      have FJ := findL_any w0 w2 b cp cs ps zs tm cl ap sa HL2.out HZ8.out.2 HZ8.out.1
      rw [← HI.out] at FJ
      generalize isE cl zs = there at FJ
      go_wp2_with fail
      go_fit FJ
      rintro _ w3 ⟨rfl, k3⟩
      have HL3 : Hid (Led w0 w3 b ps zs tm ap sa cp cs) := HL2.out.next k3
      have K3 : Hid (Kept (TX b) w w3) := K2.out.trans (k3.mono (fun _ _ x => x.elim))
      have HR3 : Hid (w3.heap[D]? = some (.cells #[.int .i64 0, .string ⟨#[]⟩, .int .i64 0, .slice none 0 0] 55 (0, 0))) := k3.block _ _ HR2.out (fun x => x.elim)
      clear k3 FJ HL2 K2 HR2
      have p1 : w3.cell? ⟨b, 1, none⟩ = some (.slice sa zs.length cs) := blk_at HL3.out.blk 1 rfl
      have p2 : w3.cell? ⟨b, 2, none⟩ = some (.int .i64 tm) := blk_at HL3.out.blk 2 rfl
      obtain ⟨W4, hW4⟩ : ∃ W4, W4 = w3.drew.alloc (.cells #[.int .i64 cl, .int .i64 0, .int .i64 0, .string ⟨#[]⟩, .int .i64 0, .slice none 0 0, .int .i64 tm] 121) := ⟨_, rfl⟩
      have K34 : Hid (Kept Nil w3 W4) := by rw [hW4]; exact (Kept.refl _ _).drew.alloc _
      have HL4 : Hid (Led w0 W4 b ps zs tm ap sa cp cs) := HL3.out.next K34.out
      have K4 : Hid (Kept (TX b) w W4) := K3.out.trans (K34.out.mono (fun _ _ x => x.elim))
      have HR4 : Hid (W4.heap[D]? = some (.cells #[.int .i64 0, .string ⟨#[]⟩, .int .i64 0, .slice none 0 0] 55 (0, 0))) := K34.out.block _ _ HR3.out (fun x => x.elim)
      have HILE : Hid (i ≤ zs.length) := by rw [HI.out]; exact List.findIdx_le_length
      have INS := insertE_any w0.heap.size cs i w3.heap.size sa zs x W4 HL4.out.oe HILE.out (by have := HZ8.out.1; omega) (by rw [hW4, HXe.out]; exact blk_new _ _) (fun a ha => by
        have h9 := HL3.out.oe
        rw [ha] at h9
        obtain ⟨g, _, e, _, hb, _⟩ := h9.block (by simp)
        cases e
        have := lt_of_block hb
        show g ≠ _
        omega) HL4.out.kept.size
      obtain ⟨ys, HYs⟩ : ∃ ys, Hid (ys = insE i x zs) := ⟨_, rfl⟩
      have HYl : Hid (ys.length = zs.length + 1) := by rw [HYs.out]; exact insE_len HILE.out
      have HYm : Hid (∀ e ∈ ys, e ∈ zs ∨ e = x) := fun e he => by rw [HYs.out] at he; exact ins_mem he
      rw [← HYs.out] at INS HE
      rw [hW4] at INS
      have hbl : b < w3.heap.size := lt_of_block HL3.out.blk
      go_upto_region 6 with fail
      go_cut [] (fun wc => ∃ sa' cs', Hid (Led w0 wc b ps ys tm ap sa' cp cs') ∧ Hid (wc.heap[D]? = some (.cells #[.int .i64 0, .string ⟨#[]⟩, .int .i64 0, .slice none 0 0] 55 (0, 0))) ∧ Hid (Kept (TX b) w wc))
      case first =>
        go_region_with (go_at_call 163; go_fit INS; rintro e w5 ⟨sa', cs', rfl, o5, g5⟩; rw [← hW4] at g5; have K5 : Hid (Kept (BlkE sa) W4 w5) := grown_blkE g5; have HO5 : Hid (OwnE w0.heap.size w5 sa' cs' ys) := o5; have HB5 : Hid (LedAt w5 b ap sa ps.length cp zs.length cs tm) := (HL4.out.kept2 K5.out).1; have u1 : w5.cell? ⟨b, 1, none⟩ = some (.slice sa zs.length cs) := blk_at HB5.out 1 rfl; have f1 : w5.frozen? ⟨b, 1, none⟩ = false := blk_free HB5.out 1; clear o5 g5)
        all_goals
          obtain ⟨V, hV⟩ : ∃ V, V = w5.setCell ⟨b, 1, none⟩ (.slice sa' (zs.length + 1) cs') := ⟨_, rfl⟩
          obtain ⟨h1, h2, h3, h4, h5⟩ := HL4.out.kept2 K5.out
          have HLV : Hid (Led w0 V b ps ys tm ap sa' cp cs') := by
            rw [hV]
            refine ⟨?_, own_led h2 h1 (by decide), own_led HO5.out h1 (by decide), fun e he => ?_, h4.setNew (p := ⟨b, 1, none⟩) HL4.out.new _, HL4.out.new⟩
            · have h6 := blk_set h1 1 (.slice sa' (zs.length + 1) cs')
              unfold LedAt
              rw [HYl.out]
              exact h6
            · rcases HYm.out e he with he | rfl
              · exact own_led (h3 e he) h1 (by decide)
              · rw [HXe.out]
                exact World.ownsRow_nil _ _ _ _
          have HRV : Hid (V.heap[D]? = some (.cells #[.int .i64 0, .string ⟨#[]⟩, .int .i64 0, .slice none 0 0] 55 (0, 0))) := by rw [hV]; exact blk_other (h5.block _ _ HR4.out (not_TX HDb.out (by decide) (by decide))) (a := ⟨b, 1, none⟩) HDb.out _
          have KV : Hid (Kept (TX b) w V) := by rw [hV]; exact kept_led (K4.out.trans h5) _
          clear h1 h2 h3 h4 h5
          go_wp2_with fail
          rw [← hV]
          go_meet
          exact ⟨sa', cs', HLV.out, HRV.out, KV.out⟩
      case rest =>
        obtain ⟨sa', cs', HLZ, HRZ, KZ⟩ := hcut
        rename World => wz
        clear hW4 K34 HL4 K4 HR4 INS p1 p2 HL3 K3 HR3
        have r0 : wz.cell? ⟨D, 0, none⟩ = some (.int .i64 0) := blk_at HRZ.out 0 rfl
        have r1 : wz.cell? ⟨D, 1, none⟩ = some (.string ⟨#[]⟩) := blk_at HRZ.out 1 rfl
        have r2 : wz.cell? ⟨D, 2, none⟩ = some (.int .i64 0) := blk_at HRZ.out 2 rfl
        have r3 : wz.cell? ⟨D, 3, none⟩ = some (.slice none 0 0) := blk_at HRZ.out 3 rfl
        have z0 : wz.frozen? ⟨D, 0, none⟩ = false := blk_free HRZ.out 0
        have z1 : wz.frozen? ⟨D, 1, none⟩ = false := blk_free HRZ.out 1
        have z2 : wz.frozen? ⟨D, 2, none⟩ = false := blk_free HRZ.out 2
        have z3 : wz.frozen? ⟨D, 3, none⟩ = false := blk_free HRZ.out 3
        obtain ⟨V, hV⟩ : ∃ V, V = (((wz.setCell ⟨D, 0, none⟩ (.int .i64 1)).setCell ⟨D, 1, none⟩ (.string ⟨#[]⟩)).setCell ⟨D, 2, none⟩ (.int .i64 cl)).setCell ⟨D, 3, none⟩ (.slice none 0 0) := ⟨_, rfl⟩
        have BF : Hid (V.heap[D]? = some (.cells #[.int .i64 1, .string ⟨#[]⟩, .int .i64 cl, .slice none 0 0] 55 (0, 0))) := by rw [hV]; exact blk_set (blk_set (blk_set (blk_set HRZ.out 0 _) 1 _) 2 _) 3 _
        have LV : Hid (Led w0 V b ps ys tm ap sa' cp cs') := by rw [hV]; exact HLZ.out.res HRZ.out HD.out.2 _ _ _ _
        have KV : Hid (Kept (TX b) w V) := by rw [hV]; exact kept_res (kept_res (kept_res (kept_res KZ.out HD.out.1 _) HD.out.1 _) HD.out.1 _) HD.out.1 _
        go_wp2
        rw [← hV]
        clear hV
        have j0 : V.cell? ⟨D, 0, none⟩ = some (.int .i64 1) := blk_at BF.out 0 rfl
        have j1 : V.cell? ⟨D, 1, none⟩ = some (.string ⟨#[]⟩) := blk_at BF.out 1 rfl
        have j2 : V.cell? ⟨D, 2, none⟩ = some (.int .i64 cl) := blk_at BF.out 2 rfl
        have j3 : V.cell? ⟨D, 3, none⟩ = some (.slice none 0 0) := blk_at BF.out 3 rfl
        refine bodyPost_ret (v := rrV ⟨1, [], cl, []⟩ none 0) (by simp [results, Try.results126, go_sem, rrV, bs, j0, j1, j2, j3]) rfl ?_
        rw [HE.out]
        exact ⟨ap, cp, sa', cs', ys, none, 0, rfl, LV.out, (by rw [HYs.out]), World.ownsRow_nil _ _ _ _, KV.out, apart_none _⟩

end Go.Proofs.Ytblmmbghnkplkaa
