/-
  Sessions: room for one more.
-/
import Derived.Test.YtilolhjlokfkeaaWSe6
namespace Go.Proofs.Ytilolhjlokfkeaa
open Go.RowKit

def roomE (es : List Se) : List Se := if es.length < 8 then es else es.filter fun f => !decide (f.s.cl = oldE es)
theorem oldE_is {es : List Se} (h0 : 0 < es.length) : oldE es = (minFrom es[0] (es.drop 1)).s.cl := by
  cases es with
  | nil => simp at h0
  | cons e t => rfl

set_option maxRecDepth 100000 in
set_option maxHeartbeats 2000000 in
theorem makeRoom_any (w0 w : World) (b cp cs : Nat) (ps : List Pr) (es : List Se) (tm : Int) (ap sa : Option Addr) (h : Led w0 w b ps es tm ap sa cp cs) (hl : es.length ≤ 8) :
    Calls Try.prog 162 #[.pointer (some ⟨b, 0, none⟩)] w fun e w' => e = .returned (.tuple #[]) ∧ Led w0 w' b ps (roomE es) tm ap sa cp cs ∧ Kept (TX b) w w' := by
  have HL : Hid (Led w0 w b ps es tm ap sa cp cs) := h
  have q1 : w.cell? ⟨b, 1, none⟩ = some (.slice sa es.length cs) := blk_at h.blk 1 rfl
  obtain ⟨zs, HZ⟩ : ∃ zs, Hid (zs = roomE es) := ⟨_, rfl⟩
  rw [← HZ.out]
  clear h
  by_cases h8 : es.length < 8
  · have HE : Hid (zs = es) := by show _ = _; rw [HZ.out]; exact if_pos h8
    have h8i : (es.length : Int) < 8 := by omega
    go_enter Try.func162, Try.ntmps162
    go_wp2
    refine bodyPost_ret (results_none rfl _ _ _) rfl ?_
    exact ⟨rfl, by rw [HE.out]; exact HL.out, Kept.refl _ _⟩
  · have h8i : ¬ (es.length : Int) < 8 := by omega
    have hne : sa ≠ none := fun e => by
      have h9 := HL.out.oe
      rw [e] at h9
      have := h9.noneE.1
      rw [this] at h8
      simp at h8
    obtain ⟨g, gs, rfl, _, hgb, _⟩ := HL.out.oe.block hne
    have HGW : Hid (g < w.heap.size) := lt_of_block hgb
    clear hgb hne
    have h0 : 0 < es.length := by omega
    obtain ⟨x, HX⟩ : ∃ x, Hid (x = minFrom es[0] (es.drop 1)) := ⟨_, (rfl : minFrom es[0] (es.drop 1) = minFrom es[0] (es.drop 1))⟩
    have HE : Hid (zs = es.filter fun f => !decide (f.s.cl = x.s.cl)) := by
      show _ = _
      rw [HZ.out, HX.out]
      unfold roomE
      rw [if_neg h8, oldE_is h0]
    have HZs : Hid (∀ e ∈ zs, e ∈ es) := fun e he => by rw [HE.out] at he; exact (List.mem_filter.1 he).1
    have MI := minE_any w0.heap.size cs g es w HL.out.oe h0 hl
    rw [← HX.out] at MI
    unfold seV at MI
    go_enter Try.func162, Try.ntmps162
    go_wp2_with fail
    go_fit MI
    rintro _ w1 ⟨rfl, k1⟩
    have HL1 : Hid (Led w0 w1 b ps es tm ap (some ⟨g, 0, none⟩) cp cs) := HL.out.next k1
    have K1 : Hid (Kept (TX b) w w1) := k1.mono (fun _ _ x => x.elim)
    have HS1 : Hid (w.heap.size ≤ w1.heap.size) := k1.size
    clear k1 MI HL q1
    obtain ⟨X, hX⟩ : ∃ X, X = w1.alloc (.cells #[.int .i64 x.s.cl, .int .i64 x.s.ls, .int .i64 x.s.kd, .string (bs x.s.val), .int .i64 x.s.ver, .slice x.ao x.s.ks.length x.c, .int .i64 x.s.sn] 121) := ⟨_, rfl⟩
    obtain ⟨C, HCe⟩ : ∃ C, Hid (C = w1.heap.size) := ⟨_, rfl⟩
    have HCX : Hid (X.heap[C]? = some (.cells #[.int .i64 x.s.cl, .int .i64 x.s.ls, .int .i64 x.s.kd, .string (bs x.s.val), .int .i64 x.s.ver, .slice x.ao x.s.ks.length x.c, .int .i64 x.s.sn] 121 (0, 0))) := by rw [hX, HCe.out]; exact blk_new _ _
    have HLX : Hid (Led w0 X b ps es tm ap (some ⟨g, 0, none⟩) cp cs) := by rw [hX]; exact HL1.out.next ((Kept.refl _ _).alloc _)
    have KX : Hid (Kept (TX b) w X) := by rw [hX]; exact K1.out.alloc _
    have HCg : Hid (∀ o, ¬ BlkE (some ⟨g, 0, none⟩) C o) := fun o hb => by
      obtain ⟨a, ha, e⟩ := hb
      cases ha
      have h1 := HCe.out
      have h2 := HGW.out
      have h3 := HS1.out
      have e9 : g = C := e
      omega
    go_upto_region 2 with fail
    rw [← hX, ← HCe.out]
    clear hX HL1 K1
    have DF := delA_any 185 w0.heap.size cs (some ⟨g, 0, none⟩) (.pointer (some ⟨C, 0, none⟩)) (fun f => decide (f.s.cl = x.s.cl)) es X HLX.out.oe (by omega) (fun args w => by kernel_rfl) (fun Y k e => goneC_any e C x.s.cl Y (blk_at (k.block _ _ HCX.out (HCg.out _)) 0 rfl))
    have q1 : X.cell? ⟨b, 1, none⟩ = some (.slice (some ⟨g, 0, none⟩) es.length cs) := blk_at HLX.out.blk 1 rfl
    rw [← HE.out] at DF
    go_wp2_with fail
    go_fit DF
    rintro e w3 ⟨rfl, o3, k3⟩
    have K3 : Hid (Kept (BlkE (some ⟨g, 0, none⟩)) X w3) := k3
    have HO3 : Hid (OwnE w0.heap.size w3 (some ⟨g, 0, none⟩) cs zs) := o3
    have u1 : w3.cell? ⟨b, 1, none⟩ = some (.slice (some ⟨g, 0, none⟩) es.length cs) := blk_at (HLX.out.kept2 K3.out).1 1 rfl
    have f1 : w3.frozen? ⟨b, 1, none⟩ = false := blk_free (HLX.out.kept2 K3.out).1 1
    clear o3 k3
    all_goals
      obtain ⟨V, hV⟩ : ∃ V, V = w3.setCell ⟨b, 1, none⟩ (.slice (some ⟨g, 0, none⟩) zs.length cs) := ⟨_, rfl⟩
      have HLV : Hid (Led w0 V b ps zs tm ap (some ⟨g, 0, none⟩) cp cs) := by
        rw [hV]
        obtain ⟨h1, h2, h3, h4, h5⟩ := HLX.out.kept2 K3.out
        exact ⟨blk_set h1 1 _, own_led h2 h1 (by decide), own_led HO3.out h1 (by decide), fun e he => own_led (h3 e (HZs.out e he)) h1 (by decide), h4.setNew (p := ⟨b, 1, none⟩) HLX.out.new _, HLX.out.new⟩
      have KV : Hid (Kept (TX b) w V) := by
        rw [hV]
        exact kept_led (KX.out.trans (HLX.out.kept2 K3.out).2.2.2.2) _
      go_wp2
      rw [← hV]
      go_end0
      exact ⟨rfl, HLV.out, KV.out⟩

end Go.Proofs.Ytilolhjlokfkeaa
