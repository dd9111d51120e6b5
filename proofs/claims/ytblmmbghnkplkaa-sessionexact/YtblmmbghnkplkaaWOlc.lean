/-
  Joined: WSe7, WSe9, WSeA.
-/
import Derived.Test.YtblmmbghnkplkaaWSe6
import Derived.Test.YtblmmbghnkplkaaWKv12
import Derived.Deep.DeepCutAuto
/-
  Sessions: room for one more.
-/
namespace Go.Proofs.Ytblmmbghnkplkaa
open Go.RowKit

def roomE (es : List Se) : List Se := if es.length < 8 then es else es.filter fun f => !decide (f.s.cl = oldE es)
theorem oldE_is {es : List Se} (h0 : 0 < es.length) : oldE es = (minFrom es[0] (es.drop 1)).s.cl := by
  cases es with
  | nil => simp at h0
  | cons e t => rfl

set_option maxRecDepth 100000 in
set_option maxHeartbeats 2000000 in
theorem makeRoom_any (w0 w : World) (b cp cs : Nat) (ps : List Pr) (es : List Se) (tm : Int) (ap sa : Option Addr) (h : Led w0 w b ps es tm ap sa cp cs) (hl : es.length ≤ 8) :
    Calls Try.prog 162 #[.pointer (some ⟨b, 0, none⟩)] w fun e w' => e = .returned (.tuple #[]) ∧ Led w0 w' b ps (roomE es) tm ap sa cp cs ∧ Kept (TX b) w w' := by
  have HL : Hid (Led w0 w b ps es tm ap sa cp cs) := h
  have q1 : w.cell? ⟨b, 1, none⟩ = some (.slice sa es.length cs) := blk_at h.blk 1 rfl
  obtain ⟨zs, HZ⟩ : ∃ zs, Hid (zs = roomE es) := ⟨_, rfl⟩
  rw [← HZ.out]
  clear h
  by_cases h8 : es.length < 8
  · have HE : Hid (zs = es) := by show _ = _; rw [HZ.out]; exact if_pos h8
    have h8i : (es.length : Int) < 8 := by omega
    go_enter Try.func162, Try.ntmps162
    go_wp2
    refine bodyPost_ret (results_none rfl _ _ _) rfl ?_
    exact ⟨rfl, by rw [HE.out]; exact HL.out, Kept.refl _ _⟩
  · have h8i : ¬ (es.length : Int) < 8 := by omega
    have hne : sa ≠ none := fun e => by
      have h9 := HL.out.oe
      rw [e] at h9
      have := h9.noneE.1
      rw [this] at h8
      simp at h8
    obtain ⟨g, gs, rfl, _, hgb, _⟩ := HL.out.oe.block hne
    have HGW : Hid (g < w.heap.size) := lt_of_block hgb
    clear hgb hne
    have h0 : 0 < es.length := by omega
    obtain ⟨x, HX⟩ : ∃ x, Hid (x = minFrom es[0] (es.drop 1)) := ⟨_, (rfl : minFrom es[0] (es.drop 1) = minFrom es[0] (es.drop 1))⟩
    have HE : Hid (zs = es.filter fun f => !decide (f.s.cl = x.s.cl)) := by
      show _ = _
      rw [HZ.out, HX.out]
      unfold roomE
      rw [if_neg h8, oldE_is h0]
    have HZs : Hid (∀ e ∈ zs, e ∈ es) := fun e he => by rw [HE.out] at he; exact (List.mem_filter.1 he).1
    have MI := minE_any w0.heap.size cs g es w HL.out.oe h0 hl
    rw [← HX.out] at MI
    unfold seV at MI
    go_enter Try.func162, Try.ntmps162
    go_wp2_with fail
    go_fit MI
    rintro _ w1 ⟨rfl, k1⟩
    have HL1 : Hid (Led w0 w1 b ps es tm ap (some ⟨g, 0, none⟩) cp cs) := HL.out.next k1
    have K1 : Hid (Kept (TX b) w w1) := k1.mono (fun _ _ x => x.elim)
    have HS1 : Hid (w.heap.size ≤ w1.heap.size) := k1.size
    clear k1 MI HL q1
    obtain ⟨X, hX⟩ : ∃ X, X = w1.alloc (.cells #[.int .i64 x.s.cl, .int .i64 x.s.ls, .int .i64 x.s.kd, .string (bs x.s.val), .int .i64 x.s.ver, .slice x.ao x.s.ks.length x.c, .int .i64 x.s.sn] 121) := ⟨_, rfl⟩
    obtain ⟨C, HCe⟩ : ∃ C, Hid (C = w1.heap.size) := ⟨_, rfl⟩
    have HCX : Hid (X.heap[C]? = some (.cells #[.int .i64 x.s.cl, .int .i64 x.s.ls, .int .i64 x.s.kd, .string (bs x.s.val), .int .i64 x.s.ver, .slice x.ao x.s.ks.length x.c, .int .i64 x.s.sn] 121 (0, 0))) := by rw [hX, HCe.out]; exact blk_new _ _
    have HLX : Hid (Led w0 X b ps es tm ap (some ⟨g, 0, none⟩) cp cs) := by rw [hX]; exact HL1.out.next ((Kept.refl _ _).alloc _)
    have KX : Hid (Kept (TX b) w X) := by rw [hX]; exact K1.out.alloc _
    have HCg : Hid (∀ o, ¬ BlkE (some ⟨g, 0, none⟩) C o) := fun o hb => by
      obtain ⟨a, ha, e⟩ := hb
      cases ha
      have h1 := HCe.out
      have h2 := HGW.out
      have h3 := HS1.out
      have e9 : g = C := e
      omega
    go_upto_region 2 with fail
    rw [← hX, ← HCe.out]
    clear hX HL1 K1
    have DF := delA_any 185 w0.heap.size cs (some ⟨g, 0, none⟩) (.pointer (some ⟨C, 0, none⟩)) (fun f => decide (f.s.cl = x.s.cl)) es X HLX.out.oe (by omega) (fun args w => by kernel_rfl) (fun Y k e => goneC_any e C x.s.cl Y (blk_at (k.block _ _ HCX.out (HCg.out _)) 0 rfl))
    have q1 : X.cell? ⟨b, 1, none⟩ = some (.slice (some ⟨g, 0, none⟩) es.length cs) := blk_at HLX.out.blk 1 rfl
    rw [← HE.out] at DF
    go_wp2_with fail
    go_fit DF
    rintro e w3 ⟨rfl, o3, k3⟩
    have K3 : Hid (Kept (BlkE (some ⟨g, 0, none⟩)) X w3) := k3
    have HO3 : Hid (OwnE w0.heap.size w3 (some ⟨g, 0, none⟩) cs zs) := o3
    have u1 : w3.cell? ⟨b, 1, none⟩ = some (.slice (some ⟨g, 0, none⟩) es.length cs) := blk_at (HLX.out.kept2 K3.out).1 1 rfl
    have f1 : w3.frozen? ⟨b, 1, none⟩ = false := blk_free (HLX.out.kept2 K3.out).1 1
    clear o3 k3
    all_goals
      obtain ⟨V, hV⟩ : ∃ V, V = w3.setCell ⟨b, 1, none⟩ (.slice (some ⟨g, 0, none⟩) zs.length cs) := ⟨_, rfl⟩
      have HLV : Hid (Led w0 V b ps zs tm ap (some ⟨g, 0, none⟩) cp cs) := by
        rw [hV]
        obtain ⟨h1, h2, h3, h4, h5⟩ := HLX.out.kept2 K3.out
        exact ⟨blk_set h1 1 _, own_led h2 h1 (by decide), own_led HO3.out h1 (by decide), fun e he => own_led (h3 e (HZs.out e he)) h1 (by decide), h4.setNew (p := ⟨b, 1, none⟩) HLX.out.new _, HLX.out.new⟩
      have KV : Hid (Kept (TX b) w V) := by
        rw [hV]
        exact kept_led (KX.out.trans (HLX.out.kept2 K3.out).2.2.2.2) _
      go_wp2
      rw [← hV]
      go_end0
      exact ⟨rfl, HLV.out, KV.out⟩

end Go.Proofs.Ytblmmbghnkplkaa

/-
  Sessions: one session of a ledger put.
-/
namespace Go.Proofs.Ytblmmbghnkplkaa
open Go.RowKit

theorem seCells_put (es : List Se) (k r : Nat) (hk : k < es.length) (hr : r < 7) (x : Se) (u : Value) (hu : (seCell x)[r]? = some u) (hs : ∀ r', r' ≠ r → (seCell x)[r']? = (seCell es[k])[r']?) : (seCells es).set (k * 7 + r) u = seCells (es.set k x) := by
  apply List.ext_getElem?
  intro j
  have hkx : k < (es.set k x).length := by rw [List.length_set]; exact hk
  by_cases hj : j < es.length * 7
  · have hd : j = j / 7 * 7 + j % 7 := by omega
    have hq : j / 7 < es.length := by omega
    have hq2 : j / 7 < (es.set k x).length := by rw [List.length_set]; exact hq
    rw [List.getElem?_set, hd, seCells_at (es.set k x) (j / 7) (j % 7) hq2 (by omega)]
    by_cases hqk : k = j / 7
    · have e1 : (es.set k x)[j / 7] = x := by
        rw [List.getElem_set, if_pos hqk]
      rw [e1]
      by_cases hrr : r = j % 7
      · rw [if_pos (by omega), if_pos (by rw [seCells_len]; omega), ← hrr, hu]
      · rw [if_neg (by omega), seCells_at es (j / 7) (j % 7) hq (by omega), hs (j % 7) (fun e => hrr e.symm)]
        subst hqk
        rfl
    · have e1 : (es.set k x)[j / 7] = es[j / 7] := by rw [List.getElem_set, if_neg hqk]
      rw [e1, if_neg (by omega), seCells_at es (j / 7) (j % 7) hq (by omega)]
  · rw [List.getElem?_eq_none (by rw [List.length_set, seCells_len]; omega), List.getElem?_eq_none (by rw [seCells_len, List.length_set]; omega)]
theorem OwnE.put1 {B g c k r : Nat} {w : World} {es : List Se} (h : OwnE B w (some ⟨g, 0, none⟩) c es) (hk : k < es.length) (hr : r < 7) (x : Se) (u : Value) (hu : (seCell x)[r]? = some u) (hs : ∀ r', r' ≠ r → (seCell x)[r']? = (seCell es[k])[r']?) : OwnE B (w.setCell ⟨g, k * 7 + r, none⟩ u) (some ⟨g, 0, none⟩) c (es.set k x) := by
  have := own_setAtK h (k * 7 + r) u
  rw [seCells_put es k r hk hr x u hu hs] at this
  unfold OwnE
  rw [List.length_set]
  exact this
/-- Cells of a session put: rows of another kind are as they were. -/
theorem own_ses {B size n g o : Nat} {e : TypeId} {w : World} {v x : Value} {xs : List Value} {cs : Array Value} (h : w.ownsRow B e size v n xs) (hb : w.heap[g]? = some (.cells cs 121 (0, 0))) (hne : e ≠ 121) : (w.setCell ⟨g, o, none⟩ x).ownsRow B e size v n xs :=
  ownsRow_setCell_other h (a := ⟨g, o, none⟩) (own_neTyS h hb hne) x
theorem kept_ses {b g i : Nat} {w X : World} {cs : Array Value} (h : Kept (TX b) w X) (hb : X.heap[g]? = some (.cells cs 121 (0, 0))) (hw : w.heap.size ≤ g ∨ ∃ cs', w.heap[g]? = some (.cells cs' 121 (0, 0))) (u : Value) : Kept (TX b) w (X.setCell ⟨g, i, none⟩ u) := by
  have k2 : Kept (One g) X (X.setCell ⟨g, i, none⟩ u) := (Kept.refl (One g) X).setCell (p := ⟨g, i, none⟩) (fun _ => rfl) u
  refine ⟨k2.os.trans h.os, k2.tape.trans h.tape, k2.output.trans h.output, Nat.le_trans h.size k2.size, fun k o ho hx => ?_⟩
  have h1 := h.block k o ho hx
  refine k2.block k o h1 (fun e => hx ?_)
  have e' : k = g := e
  subst e'
  rcases hw with hw | ⟨cs', hw⟩
  · have := lt_of_block ho
    omega
  · rw [hw] at ho
    cases ho
    exact .inr (.inl ⟨_, _, rfl⟩)
/-- Where the sessions of a ledger lie. -/
theorem Led.row {w0 w : World} {b : Nat} {ps : List Pr} {es : List Se} {tm : Int} {ap sa : Option Addr} {cp cs : Nat} (h : Led w0 w b ps es tm ap sa cp cs) (h0 : 0 < es.length) : ∃ g cl, sa = some ⟨g, 0, none⟩ ∧ w.heap[g]? = some (.cells cl 121 (0, 0)) ∧ w0.heap.size ≤ g ∧ es.length * 7 ≤ cl.size := by
  obtain ⟨g, cl, e, hg, hb, hl, _, hs, _⟩ := h.oe.block (fun e => by
    have h9 := h.oe
    rw [e] at h9
    have := h9.noneE.1
    rw [this] at h0
    simp at h0)
  exact ⟨g, cl, e, hb, hg, by rw [hs]; exact Nat.mul_le_mul_right _ hl⟩
/-- One cell of one session of a ledger put. -/
theorem Led.put1 {w0 w : World} {b g k r : Nat} {ps : List Pr} {es : List Se} {tm : Int} {ap : Option Addr} {cp cs : Nat} (h : Led w0 w b ps es tm ap (some ⟨g, 0, none⟩) cp cs) (hk : k < es.length) (hr : r < 7) (x : Se) (u : Value) (hu : (seCell x)[r]? = some u) (hs : ∀ r', r' ≠ r → (seCell x)[r']? = (seCell es[k])[r']?) (ho : OwnK w0.heap.size w x.ao x.c x.s.ks) : Led w0 (w.setCell ⟨g, k * 7 + r, none⟩ u) b ps (es.set k x) tm ap (some ⟨g, 0, none⟩) cp cs := by
  obtain ⟨g', cl, e, hb, hg, _⟩ := h.row (by omega)
  cases e
  have hbg : b ≠ g := fun e => by
    have h1 := h.blk
    unfold LedAt at h1
    rw [e, hb] at h1
    simp at h1
  refine ⟨?_, own_ses h.op hb (by decide), h.oe.put1 hk hr x u hu hs, fun e he => ?_, h.kept.setNew (p := ⟨g, k * 7 + r, none⟩) hg _, h.new⟩
  · unfold LedAt
    rw [List.length_set]
    exact blk_other h.blk (a := ⟨g, k * 7 + r, none⟩) hbg _
  · rcases List.mem_or_eq_of_mem_set he with he | rfl
    · exact own_ses (h.ok e he) hb (by decide)
    · exact own_ses ho hb (by decide)

end Go.Proofs.Ytblmmbghnkplkaa

/-
  Sessions: a client is served: what comes of it.
-/
namespace Go.Proofs.Ytblmmbghnkplkaa
open Go.RowKit

def lowS (cl : Int) (ss : List Ss) : Nat := ss.findIdx fun e => decide (cl ≤ e.cl)
def isS (cl : Int) (ss : List Ss) : Bool := match ss[lowS cl ss]? with | none => false | some e => decide (e.cl = cl)
theorem lowE_map (cl : Int) (es : List Se) : lowE cl es = lowS cl (es.map Se.s) := by
  unfold lowE lowS
  rw [List.findIdx_map]
  rfl
theorem isE_map (cl : Int) (es : List Se) : isE cl es = isS cl (es.map Se.s) := by
  unfold isE isS
  rw [lowE_map, List.getElem?_map]
  cases es[lowS cl (es.map Se.s)]? <;> rfl
theorem isE_at {cl : Int} {es : List Se} (h : isE cl es = true) : ∃ hl : lowE cl es < es.length, es[lowE cl es].s.cl = cl := by
  unfold isE at h
  by_cases hl : lowE cl es < es.length
  · rw [List.getElem?_eq_getElem hl] at h
    exact ⟨hl, by simpa using h⟩
  · rw [List.getElem?_eq_none (by omega)] at h
    cases h
/-- What is said without keys. -/
def rr0 (k : Int) : Rr := ⟨k, [], 0, []⟩
/-- A request is served: the pairs, the sessions, the answer. -/
def servT (ps : List Pr) (ss : List Ss) (tm cl nu kd : Int) (key val : List UInt8) (m : Int) : List Pr × List Ss × Rr :=
  if isS cl ss = false then (ps, ss, rr0 8) else
  match ss[lowS cl ss]? with
  | none => (ps, ss, rr0 8)
  | some s =>
    if nu < s.ls ∨ nu < 1 then (ps, ss.set (lowS cl ss) { s with sn := tm }, rr0 6)
    else if s.ls + 1 < nu then (ps, ss.set (lowS cl ss) { s with sn := tm }, rr0 7)
    else if s.ls < nu then (apP kd key val m ps, ss.set (lowS cl ss) { s with sn := tm, ls := nu, kd := (apR kd key val m ps).kd, val := (apR kd key val m ps).v, ver := (apR kd key val m ps).n, ks := (apR kd key val m ps).ks }, apR kd key val m ps)
    else (ps, ss.set (lowS cl ss) { s with sn := tm }, ⟨s.kd, s.val, s.ver, s.ks⟩)

end Go.Proofs.Ytblmmbghnkplkaa
