/-
  Sessions: a ledger in memory; time goes on.
-/
import Derived.Test.YtblmmbghnkplkaaWSe2
import Derived.Test.YtblmmbghnkplkaaWSe4
namespace Go.Proofs.Ytblmmbghnkplkaa
open Go.RowKit

set_option maxRecDepth 100000 in
set_option maxHeartbeats 1000000 in
theorem indexN_any (N : Nat) (cap : Value) (w : World) : Calls Try.prog 160 #[.slice none 0 0, .func (.func N) #[] #[cap]] w fun e w' => e = .returned (.int .i64 (-1)) ∧ w' = w := by
  go_enter Try.func160, Try.ntmps160
  go_wp2
  go_loopw [8] (fun i wr => i = .int .i64 0 ∧ wr = w) (fun _ _ => 0)
  case atStart => exact ⟨rfl, rfl⟩
  case round =>
    obtain ⟨rfl, rfl⟩ := hrel
    go_wp2
    go_ret
    exact ⟨rfl, rfl⟩
set_option maxRecDepth 100000 in
set_option maxHeartbeats 1000000 in
theorem delN_any (N : Nat) (cap : Value) (w : World) : Calls Try.prog 124 #[.slice none 0 0, .func (.func N) #[] #[cap]] w fun e w' => e = .returned (.slice none 0 0) ∧ w' = w := by
  have IX := indexN_any N cap w
  go_enter Try.func124, Try.ntmps124
  go_wp2_with fail
  go_fit IX
  rintro _ _ ⟨rfl, rfl⟩
  go_wp2
  go_ret
  exact ⟨rfl, rfl⟩
theorem delA_any (N B c : Nat) (ao : Option Addr) (cap : Value) (p : Se → Bool) (fs : List Se) (w : World) (h : OwnE B w ao c fs) (hl : (fs.length : Int) ≤ 1099511627776) (eg : ∀ (args : Array Value) (w : World), (callFunc N args).run Try.prog w = .ok (.enter N args) w) (PF : ∀ X, Kept (BlkE ao) w X → ∀ e : Se, Calls Try.prog N #[seV e, cap] X fun r w' => r = .returned (.bool (p e)) ∧ Kept Nil X w') :
    Calls Try.prog 124 #[.slice ao fs.length c, .func (.func N) #[] #[cap]] w fun e w' => e = .returned (.slice ao (fs.filter fun f => !p f).length c) ∧ OwnE B w' ao c (fs.filter fun f => !p f) ∧ Kept (BlkE ao) w w' := by
  cases ao with
  | none =>
    obtain ⟨rfl, rfl⟩ := h.noneE
    refine (delN_any N cap w).mono ?_
    rintro _ _ ⟨rfl, rfl⟩
    exact ⟨rfl, World.ownsRow_nil _ _ _ _, Kept.refl _ _⟩
  | some a =>
    obtain ⟨g, _, e, _⟩ := h.block (by simp)
    cases e
    exact delE_any N B c g cap p fs w h hl eg PF

/-- A ledger in memory. -/
def LedAt (w : World) (b : Nat) (ap sa : Option Addr) (np cp ns cs : Nat) (tm : Int) : Prop := w.heap[b]? = some (.cells #[.slice ap np cp, .slice sa ns cs, .int .i64 tm] 113 (0, 0))
/-- What a call on a ledger may touch: it, sessions, pairs. -/
def TX (b : Nat) (k : Nat) (o : Obj) : Prop := k = b ∨ (∃ cs fr, o = .cells cs 121 fr) ∨ ∃ cs fr, o = .cells cs 61 fr
/-- A ledger, and all that it holds, above an elder world. -/
structure Led (w0 w : World) (b : Nat) (ps : List Pr) (es : List Se) (tm : Int) (ap sa : Option Addr) (cp cs : Nat) : Prop where
  blk : LedAt w b ap sa ps.length cp es.length cs tm
  op : OwnP w0.heap.size w ap cp ps
  oe : OwnE w0.heap.size w sa cs es
  ok : OwnKs w0.heap.size w es
  kept : Kept Nil w0 w
  new : w0.heap.size ≤ b
theorem Led.next {w0 w w' : World} {b : Nat} {ps : List Pr} {es : List Se} {tm : Int} {ap sa : Option Addr} {cp cs : Nat} (h : Led w0 w b ps es tm ap sa cp cs) (k : Kept Nil w w') : Led w0 w' b ps es tm ap sa cp cs :=
  ⟨k.block _ _ h.blk (fun x => x.elim), h.op.kept k, h.oe.kept k, h.ok.kept k, h.kept.trans k, h.new⟩
/-- A ledger's cell put: rows of another kind are as they were. -/
theorem own_led {B size n b i : Nat} {e : TypeId} {w : World} {v x : Value} {xs : List Value} {cs : Array Value} (h : w.ownsRow B e size v n xs) (hb : w.heap[b]? = some (.cells cs 113 (0, 0))) (hne : e ≠ 113) : (w.setCell ⟨b, i, none⟩ x).ownsRow B e size v n xs :=
  ownsRow_setCell_other h (a := ⟨b, i, none⟩) (own_neTyS h hb hne) x
theorem kept_led {b i : Nat} {w X : World} (h : Kept (TX b) w X) (u : Value) : Kept (TX b) w (X.setCell ⟨b, i, none⟩ u) := h.setCell (p := ⟨b, i, none⟩) (fun _ => .inl rfl) u

/-- The ledger's time put. -/
theorem Led.time {w0 w : World} {b : Nat} {ps : List Pr} {es : List Se} {tm : Int} {ap sa : Option Addr} {cp cs : Nat} (h : Led w0 w b ps es tm ap sa cp cs) (t2 : Int) : Led w0 (w.setCell ⟨b, 2, none⟩ (.int .i64 t2)) b ps es t2 ap sa cp cs :=
  ⟨blk_set h.blk 2 _, own_led h.op h.blk (by decide), own_led h.oe h.blk (by decide), fun e he => own_led (h.ok e he) h.blk (by decide), h.kept.setNew (p := ⟨b, 2, none⟩) h.new _, h.new⟩
theorem TX.blk {ao : Option Addr} {B c b : Nat} {w : World} {es : List Se} (h : OwnE B w ao c es) : ∀ k o, w.heap[k]? = some o → BlkE ao k o → TX b k o := fun k o ho hk => by
  obtain ⟨a, rfl, rfl⟩ := hk
  obtain ⟨g, cs, e, _, hb, _⟩ := h.block (by simp)
  cases e
  rw [ho] at hb
  cases hb
  exact .inr (.inl ⟨cs, _, rfl⟩)

theorem own_keptT {X : Nat → Obj → Prop} {B size n : Nat} {e : TypeId} {w w' : World} {v : Value} {xs : List Value} (h : w.ownsRow B e size v n xs) (hk : Kept X w w') (hX : ∀ k cs, B ≤ k → w.heap[k]? = some (.cells cs e (0, 0)) → ¬ X k (.cells cs e (0, 0))) : w'.ownsRow B e size v n xs := by
  refine ⟨h.1, h.2.imp id ?_⟩
  rintro ⟨g, cap, cur, h1, h2, h3, h4⟩
  exact ⟨g, cap, cur, h1, h2, hk.block _ _ h3 (hX _ _ h2 h3), h4⟩
theorem not_blkE {ao : Option Addr} {B c : Nat} {w : World} {es : List Se} {e : TypeId} (h : OwnE B w ao c es) (hne : e ≠ 121) : ∀ k cs, w.heap[k]? = some (.cells cs e (0, 0)) → ¬ BlkE ao k (.cells cs e (0, 0)) := fun k cs hk hb => by
  obtain ⟨a, rfl, rfl⟩ := hb
  obtain ⟨g, cs', e, _, hb, _⟩ := h.block (by simp)
  cases e
  rw [hk] at hb
  simp at hb
  exact hne hb.2
/-- The sessions of a ledger are another part of the same row: all else is as it was. -/
theorem Led.kept2 {w0 w w' : World} {b : Nat} {ps : List Pr} {es : List Se} {tm : Int} {ap sa : Option Addr} {cp cs : Nat} (h : Led w0 w b ps es tm ap sa cp cs) (k : Kept (BlkE sa) w w') : LedAt w' b ap sa ps.length cp es.length cs tm ∧ OwnP w0.heap.size w' ap cp ps ∧ OwnKs w0.heap.size w' es ∧ Kept Nil w0 w' ∧ Kept (TX b) w w' :=
  ⟨k.block _ _ h.blk (not_blkE h.oe (by decide) _ _ h.blk), own_keptT h.op k (fun q cs _ hq => not_blkE h.oe (by decide) q cs hq), fun e he => own_keptT (h.ok e he) k (fun q cs _ hq => not_blkE h.oe (by decide) q cs hq),
    ⟨k.os.trans h.kept.os, k.tape.trans h.kept.tape, k.output.trans h.kept.output, Nat.le_trans h.kept.size k.size, fun q o ho hx => k.block _ _ (h.kept.block q o ho hx) (fun hb => by
      obtain ⟨a, ha, rfl⟩ := hb
      have hoe := h.oe
      rw [ha] at hoe
      obtain ⟨g, _, e, hg, _⟩ := hoe.block (by simp)
      cases e
      have := lt_of_block ho
      simp at this
      omega)⟩,
    ⟨k.os, k.tape, k.output, k.size, fun q o ho hx => k.block q o ho (fun hb => hx (TX.blk h.oe q o ho hb))⟩⟩

def lateTm (tm t2 : Int) : Int := max tm t2
set_option maxRecDepth 100000 in
set_option maxHeartbeats 2000000 in
theorem goOn_any (w0 w : World) (b cp cs : Nat) (ps : List Pr) (es : List Se) (tm t2 : Int) (ap sa : Option Addr) (h : Led w0 w b ps es tm ap sa cp cs) (hl : es.length ≤ 8) :
    Calls Try.prog 85 #[.pointer (some ⟨b, 0, none⟩), .int .i64 t2] w fun e w' => e = .returned (.tuple #[]) ∧ Led w0 w' b ps (es.filter fun f => !lateP (lateTm tm t2) f) (lateTm tm t2) ap sa cp cs ∧ Kept (TX b) w w' := by
  obtain ⟨W, hW⟩ : ∃ W, W = w.alloc (.cells #[.pointer (some ⟨b, 0, none⟩)] 152) := ⟨_, rfl⟩
  obtain ⟨C, HCe⟩ : ∃ C, Hid (C = w.heap.size) := ⟨_, rfl⟩
  have HC : Hid (W.heap[C]? = some (.cells #[.pointer (some ⟨b, 0, none⟩)] 152 (0, 0))) := by rw [hW, HCe.out]; exact blk_new _ _
  have HL : Hid (Led w0 W b ps es tm ap sa cp cs) := by rw [hW]; exact h.next ((Kept.refl _ _).alloc _)
  have KW : Hid (Kept (TX b) w W) := by rw [hW]; exact (Kept.refl _ _).alloc _
  obtain ⟨t3, HT3⟩ : ∃ t3, Hid (t3 = lateTm tm t2) := ⟨_, rfl⟩
  rw [← HT3.out]
  obtain ⟨zs, HZ⟩ : ∃ zs, Hid (zs = es.filter fun f => !lateP t3 f) := ⟨_, rfl⟩
  rw [← HZ.out]
  have hbC : b ≠ C := by have := lt_of_block h.blk; have := HCe.out; omega
  have q0 : W.cell? ⟨C, 0, none⟩ = some (.pointer (some ⟨b, 0, none⟩)) := blk_at HC.out 0 rfl
  have q2 : W.cell? ⟨b, 2, none⟩ = some (.int .i64 tm) := blk_at HL.out.blk 2 rfl
  have f2 : W.frozen? ⟨b, 2, none⟩ = false := blk_free HL.out.blk 2
  clear h
  go_enter Try.func85, Try.ntmps85
  go_upto_region 1 with fail
  rw [← hW, ← HCe.out]
  clear hW
  go_cut [] (fun wc => wc = (W.setCell ⟨b, 2, none⟩ (.int .i64 t3)).drew)
  case first =>
    go_region
    all_goals
      go_wp2
      go_meet
      rw [HT3.out]
      rfl
  case rest =>
    subst hcut
    obtain ⟨X, HX⟩ : ∃ X, Hid (X = (W.setCell ⟨b, 2, none⟩ (.int .i64 t3)).drew) := ⟨_, rfl⟩
    have HLX : Hid (Led w0 X b ps es t3 ap sa cp cs) := by rw [HX.out]; exact (HL.out.time t3).next (Kept.refl _ _).drew
    have KX : Hid (Kept (TX b) w X) := by rw [HX.out]; exact (kept_led KW.out _).drew
    have HCX : Hid (X.heap[C]? = some (.cells #[.pointer (some ⟨b, 0, none⟩)] 152 (0, 0))) := by
      rw [HX.out]
      exact (Kept.refl Nil _).drew.block _ _ (blk_other HC.out (a := ⟨b, 2, none⟩) (fun e => hbC e.symm) _) (fun x => x.elim)
    rw [← HX.out]
    clear HX HL KW HC q0 q2 f2
    have DF := delA_any 125 w0.heap.size cs sa (.pointer (some ⟨C, 0, none⟩)) (lateP t3) es X.drew (HLX.out.oe.kept (Kept.refl _ _).drew) (by omega) (fun args w => by kernel_rfl) (fun Y k e => lateC_any e C b t3 Y (blk_at (k.block _ _ HCX.out (not_blkE (HLX.out.oe.kept (Kept.refl _ _).drew) (by decide) _ _ HCX.out)) 0 rfl) (blk_at (k.block _ _ HLX.out.blk (not_blkE (HLX.out.oe.kept (Kept.refl _ _).drew) (by decide) _ _ HLX.out.blk)) 2 rfl))
    have q0 : X.cell? ⟨C, 0, none⟩ = some (.pointer (some ⟨b, 0, none⟩)) := blk_at HCX.out 0 rfl
    have q1 : X.cell? ⟨b, 1, none⟩ = some (.slice sa es.length cs) := blk_at HLX.out.blk 1 rfl
    have HZs : Hid (∀ e ∈ zs, e ∈ es) := fun e he => by rw [HZ.out] at he; exact (List.mem_filter.1 he).1
    rw [← HZ.out] at DF
    go_upto_region 2 with fail
    go_region_with (go_at_call 124; go_fit DF; rintro e w3 ⟨rfl, o3, k3⟩; have K3 : Hid (Kept (BlkE sa) X w3) := (Kept.refl _ _).drew.trans k3; have HO3 : Hid (OwnE w0.heap.size w3 sa cs zs) := o3; have u0 : w3.cell? ⟨C, 0, none⟩ = some (.pointer (some ⟨b, 0, none⟩)) := blk_at (K3.out.block _ _ HCX.out (not_blkE HLX.out.oe (by decide) _ _ HCX.out)) 0 rfl; have u1 : w3.cell? ⟨b, 1, none⟩ = some (.slice sa es.length cs) := blk_at (HLX.out.kept2 K3.out).1 1 rfl; have f1 : w3.frozen? ⟨b, 1, none⟩ = false := blk_free (HLX.out.kept2 K3.out).1 1; clear o3 k3)
    all_goals
      obtain ⟨V, hV⟩ : ∃ V, V = w3.setCell ⟨b, 1, none⟩ (.slice sa zs.length cs) := ⟨_, rfl⟩
      have HLV : Hid (Led w0 V b ps zs t3 ap sa cp cs) := by
        rw [hV]
        obtain ⟨h1, h2, h3, h4, h5⟩ := HLX.out.kept2 K3.out
        exact ⟨blk_set h1 1 _, own_led h2 h1 (by decide), own_led HO3.out h1 (by decide), fun e he => own_led (h3 e (HZs.out e he)) h1 (by decide), h4.setNew (p := ⟨b, 1, none⟩) HLX.out.new _, HLX.out.new⟩
      have KV : Hid (Kept (TX b) w V) := by
        rw [hV]
        exact kept_led (KX.out.trans (HLX.out.kept2 K3.out).2.2.2.2) _
      go_wp2
      rw [← hV]
      go_end0
      exact ⟨rfl, HLV.out, KV.out⟩

end Go.Proofs.Ytblmmbghnkplkaa
