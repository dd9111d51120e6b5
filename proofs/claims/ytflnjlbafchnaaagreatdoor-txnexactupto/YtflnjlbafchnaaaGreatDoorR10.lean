/-
  Joined: WTx6.
-/
import Derived.Test.YtflnjlbafchnaaaGreatDoorR07
import Derived.Test.YtflnjlbafchnaaaGreatDoorR01
/-
  Transactions: note, took, see, asked, looked, cleared (the program).
-/
namespace Go.Proofs.YtflnjlbafchnaaaGreatDoor
open Go.RowKit

theorem step_append_at {P : Program} (w : World) {ops : Array Oper} {o : Oper} {a : Act} {K : Act → World → Prop} {Q : Exit → Act → World → Prop} {E : Prop} (hgd : o.guard = none) (s xo : Operand) (t tx : TypeId)
    (ho : o.op = .call { callee := .builtin .append, args := #[s, xo], argTypes := #[t, tx] })
    (base : Nat) (e : TypeId) (i : TypeInfo) (z : Value) (size bytes : Nat) (ht : P.underlying t = some (.slice e)) (hi : P.info? e = some i) (hz : i.zero = some z)
    (hsize : i.size = size) (hby : i.bytes = bytes) (hzs : z.cells.size = size)
    (v : Value) (n : Nat) (xs : List Value) (hv : a.eval s = v) (hown : w.ownsRow base e size v n xs) (x : Value) (m : Nat) (news : List Value) (hx : a.eval xo = x) (hs : Src P size tx x m news w)
    (h63 : n + m ≤ maxLen) (hbytes : (n + m) * bytes ≤ 140737488355328) (hbase : base ≤ w.heap.size)
    (h : ∀ ao c w', w'.ownsRow base e size (.slice ao (n + m) c) (n + m) (xs ++ news) → w.grownBy w' v.ownBlock → (∀ g, (Value.slice ao (n + m) c).ownBlock = some g → v.ownBlock = some g ∨ w.heap.size ≤ g) → K (a.put o.dst (.slice ao (n + m) c)) w') :
    if Region.wanted o (yielded ops a.tmps) = true then Oper.wp P o a w K Q else E := by
  rw [if_pos (by simp [Region.wanted, hgd])]
  exact wp_append_at w s xo t tx ho base e i z size bytes ht hi hz hsize hby hzs v n xs hv hown x m news hx hs h63 hbytes hbase fun v' w' h2 h3 h4 => by
    obtain ⟨ao, c, rfl⟩ := own_shape h2
    exact h ao c w' h2 h3 h4
theorem Tryz.infoI2 : (Tryz.prog.info? 3).map (fun i => (i.zero, i.size, i.bytes)) = some (some (.int .i64 0), 1, 8) := by kernel_rfl
theorem TxAt.past {w : World} {b : Nat} {t : Tx} {ap oo : Option Addr} {cp oc : Nat} (h : TxAt w b t ap oo cp oc) (o : Obj) : TxAt (w.alloc o) b t ap oo cp oc := blk_past h o
/-- What a call on a transaction may touch: its block, and the numbers that it noted. -/
def TxX (b : Nat) (oo : Option Addr) : Nat → Obj → Prop := fun q _ => q = b ∨ ∃ a, oo = some a ∧ a.block = q
theorem OwnI.ne {B c b : Nat} {w : World} {ao : Option Addr} {zs : List Int} {t : Tx} {ap oo : Option Addr} {cp oc : Nat} (h : OwnI B w ao c zs) (hT : TxAt w b t ap oo cp oc) : ∀ a, ao = some a → a.block ≠ b := fun a ha e => by
  obtain ⟨_, cur, fr, hb⟩ := h.lt a ha
  rw [e] at hb
  have := hb.symm.trans hT
  simp at this
def TxPost (B : Nat) (w : World) (b : Nat) (t : Tx) (ap oo : Option Addr) (cp : Nat) (e : Ending) (w' : World) : Prop :=
  e = .returned (.tuple #[]) ∧ ∃ oo' oc', TxAt w' b t ap oo' cp oc' ∧ OwnI B w' oo' oc' t.old ∧ Kept (TxX b oo) w w' ∧ ∀ a, oo' = some a → (∃ x, oo = some x ∧ x.block = a.block) ∨ w.heap.size ≤ a.block
theorem TxPost.same {B : Nat} {w w' : World} {b : Nat} {t u : Tx} {ap oo : Option Addr} {cp oc : Nat} (hO : OwnI B w oo oc t.old) (h : TxAt w b t ap oo cp oc) (h2 : TxAt w' b u ap oo cp oc) (hk : Kept (One b) w w') (ho : u.old = t.old) : TxPost B w b u ap oo cp (.returned (.tuple #[])) w' :=
  ⟨rfl, oo, oc, h2, by rw [ho]; exact hO.keptX hk (fun a ha o x => hO.ne h a ha x), hk.mono (fun _ _ x => .inl x), fun a ha => .inl ⟨a, ha, rfl⟩⟩
theorem further_old (t : Tx) (p b : Nat) : (t.further p b).old = t.old := by unfold Tx.further; split <;> rfl
theorem own_slice {a : Option Addr} {n c : Nat} {g : Nat} : (Value.slice a n c).ownBlock = some g ↔ ∃ x, a = some x ∧ x.block = g := by
  cases a with
  | none => simp [Value.ownBlock]
  | some x => simp [Value.ownBlock]
set_option maxRecDepth 100000 in
set_option maxHeartbeats 4000000 in
theorem note_any (w : World) (b : Nat) (t : Tx) (ap oo : Option Addr) (cp oc : Nat) (h : TxAt w b t ap oo cp oc) (B : Nat) (hO : OwnI B w oo oc t.old) (hB : B ≤ w.heap.size) (hl : t.ps.length ≤ 4) (ha : t.at' < t.ps.length) (hol : t.old.length ≤ 4) :
    Calls Tryz.prog 108 #[.pointer (some ⟨b, 0, none⟩)] w (TxPost B w b t.note ap oo cp) := by
  obtain ⟨u, HU⟩ : ∃ u, Hid (u = t.note) := ⟨_, rfl⟩
  rw [← HU.out]
  obtain ⟨i0, hi, hz0, hz1, hz2⟩ := info_parts Tryz.infoI2
  have hlt : b < w.heap.size := lt_of_block h
  have q3 : w.cell? ⟨b, 3, none⟩ = some (.slice oo t.old.length oc) := blk_at h 3 rfl
  have q6 : w.cell? ⟨b, 6, none⟩ = some (.int .i64 t.sn.n) := blk_at h 6 rfl
  have H : Hid (TxAt w b t ap oo cp oc) := h
  have HO : Hid (w.ownsRow B 3 1 (.slice oo t.old.length oc) t.old.length (intC t.old)) := hO
  have HOB : Hid (OwnI B w oo oc t.old) := hO
  have HLL : Hid (t.old.length + 1 ≤ maxLen ∧ (t.old.length + 1) * 8 ≤ 140737488355328) := by constructor <;> (try unfold maxLen) <;> omega
  have HBw : Hid (B ≤ w.heap.size) := hB
  clear h hO hB
  go_enter Tryz.func108, Tryz.ntmps108
  go_wp2_with fail
  go_region_law (refine step_append_at _ rfl (.tmp 6) (.tmp 12) 37 37 rfl B 3 i0 (.int .i64 0) 1 8 Tryz.underlying37 hi hz0 hz1 hz2 rfl (.slice oo t.old.length oc) t.old.length (intC t.old) (by simp [Act.eval]) (World.ownsRow.alloc (w := w.drew) HO.out _) (.slice (some ⟨w.heap.size, 0, none⟩) 1 1) 1 [.int .i64 t.sn.n] (by simp [Act.eval]) (src_int (w := w.drew) (t.sn.n : Int)) HLL.out.1 HLL.out.2 (le_alloc (w := w.drew) HBw.out _) ?_; intro ao' c' w4 ho' hg' hat'; have HO4 : Hid (w4.ownsRow B 3 1 (.slice ao' (t.old.length + 1) c') (t.old.length + 1) (intC t.old ++ [.int .i64 t.sn.n])) := ho'; have HT4 : Hid (TxAt w4 b t ap oo cp oc) := grown_blk hg' (H.out.past _) (fun e => by obtain ⟨a, ha, e2⟩ := own_slice.1 e; exact HOB.out.ne H.out a ha e2); have HK4 : Hid (Kept (TxX b oo) w w4) := ⟨hg'.os, hg'.tape, hg'.output, Nat.le_trans (by simp) hg'.size, fun q x hq hx => grown_blk hg' (blk_past (w := w.drew) hq _) (fun e => hx (.inr (own_slice.1 e)))⟩; have HAT : Hid (∀ a, ao' = some a → (∃ x, oo = some x ∧ x.block = a.block) ∨ w.heap.size ≤ a.block) := (fun a ha => by rcases hat' a.block (own_slice.2 ⟨a, ha, rfl⟩) with h | h; exact .inl (own_slice.1 h); exact .inr (by simp at h; omega)); have c3 : w4.cell? ⟨b, 3, none⟩ = some (.slice oo t.old.length oc) := blk_at HT4.out 3 rfl; have f4 : w4.frozen? ⟨b, 3, none⟩ = false := blk_free HT4.out 3; clear ho' hg' hat')
  all_goals
    obtain ⟨V, hV⟩ : ∃ V, V = w4.setCell ⟨b, 3, none⟩ (.slice ao' (t.old.length + 1) c') := ⟨_, rfl⟩
    have HT : Hid (TxAt V b { t with old := t.old ++ [(t.sn.n : Int)] } ap ao' cp c') := by
      have := HT4.out.s3 ao' c' (t.old ++ [(t.sn.n : Int)])
      rw [List.length_append] at this
      rw [hV]
      exact this
    have HO5 : Hid (OwnI B w4 ao' c' (t.old ++ [(t.sn.n : Int)])) := by
      show OwnI _ _ _ _ _
      unfold OwnI
      rw [intC_snoc, List.length_append]
      exact HO4.out
    have HOV : Hid (OwnI B V ao' c' (t.old ++ [(t.sn.n : Int)])) := by
      rw [hV]
      exact HO5.out.keptX ((Kept.refl (One b) _).setCell (p := ⟨b, 3, none⟩) (fun _ => rfl) _) (fun a ha _ x => HO5.out.ne HT4.out a ha x)
    have HKV : Hid (Kept (TxX b oo) w V) := by rw [hV]; exact HK4.out.setCell (p := ⟨b, 3, none⟩) (fun _ => .inl rfl) _
    have FU := further_any V b _ ap ao' cp c' HT.out 1 6 hl ha
    have HUE : Hid (({ t with old := t.old ++ [(t.sn.n : Int)] } : Tx).further 1 6 = u ∧ u.old = t.old ++ [(t.sn.n : Int)]) := by
      refine ⟨HU.out.symm, ?_⟩
      rw [HU.out]
      exact further_old _ _ _
    rw [HUE.out.1] at FU
    rw [← hV]
    clear hV
    go_wp2_with fail
    go_fit FU
    rintro _ w5 ⟨rfl, t5, k5⟩
    go_wp2
    go_end0
    exact ⟨rfl, ao', c', t5, by rw [HUE.out.2]; exact HOV.out.keptX k5 (fun a ha _ x => HOV.out.ne HT.out a ha x), HKV.out.trans (k5.mono (fun _ _ x => .inl x)), HAT.out⟩
set_option maxRecDepth 100000 in
set_option maxHeartbeats 4000000 in
theorem took_any (w : World) (b : Nat) (t : Tx) (ap oo : Option Addr) (cp oc : Nat) (h : TxAt w b t ap oo cp oc) (B : Nat) (hO : OwnI B w oo oc t.old) (hB : B ≤ w.heap.size) (hl : t.ps.length ≤ 4) (ha : t.at' < t.ps.length) (hol : t.old.length ≤ 4) (ok : Bool) :
    Calls Tryz.prog 60 #[.pointer (some ⟨b, 0, none⟩), .bool ok] w (TxPost B w b (t.took ok) ap oo cp) := by
  obtain ⟨u, HU⟩ : ∃ u, Hid (u = t.took ok) := ⟨_, rfl⟩
  rw [← HU.out]
  have q4 : w.cell? ⟨b, 4, none⟩ = some (.int .i64 t.ph) := blk_at h 4 rfl
  have f4 : w.frozen? ⟨b, 4, none⟩ = false := blk_free h 4
  obtain ⟨V, hV⟩ : ∃ V, V = w.setCell ⟨b, 4, none⟩ (.int .i64 1) := ⟨_, rfl⟩
  have HT : Hid (TxAt V b { t with ph := 1 } ap oo cp oc) := by rw [hV]; exact h.s4 1
  have HK : Hid (Kept (One b) w V) := by rw [hV]; exact (Kept.refl _ _).setCell (p := ⟨b, 4, none⟩) (fun _ => rfl) _
  have HOV : Hid (OwnI B V oo oc t.old) := hO.keptX HK.out (fun a ha _ x => hO.ne h a ha x)
  cases ok with
  | true =>
    have NT := note_any V b _ ap oo cp oc HT.out B HOV.out (Nat.le_trans hB HK.out.size) hl ha hol
    rw [show ({ t with ph := 1 } : Tx).note = u from HU.out.symm] at NT
    clear h hO
    go_enter Tryz.func60, Tryz.ntmps60
    go_wp2_with fail
    rw [← hV]
    go_fit NT
    rintro _ w5 ⟨rfl, oo', oc', t5, o5, k5, a5⟩
    have HF : Hid (TxPost B w b u ap oo cp (.returned (.tuple #[])) w5) := ⟨rfl, oo', oc', t5, o5, (HK.out.mono (fun _ _ x => .inl x)).trans k5, fun a ha => (a5 a ha).imp id (fun x => Nat.le_trans HK.out.size x)⟩
    clear t5 o5 k5 a5
    go_wp2
    go_end0
    exact HF.out
  | false =>
    have HF : Hid (TxPost B w b u ap oo cp (.returned (.tuple #[])) V) := TxPost.same hO h (by rw [HU.out]; exact HT.out) HK.out (by rw [HU.out]; rfl)
    clear h hO
    go_enter Tryz.func60, Tryz.ntmps60
    go_wp2
    rw [← hV]
    go_end0
    exact HF.out
set_option maxRecDepth 100000 in
set_option maxHeartbeats 4000000 in
theorem see_any (w : World) (b : Nat) (t : Tx) (ap oo : Option Addr) (cp oc : Nat) (h : TxAt w b t ap oo cp oc) (r : Rr) (ko : Option Addr) (kc : Nat) (hL : LD w) (hv : r.v.length ≤ 1048576) :
    Calls Tryz.prog 107 #[.pointer (some ⟨b, 0, none⟩), rrV r ko kc] w fun e w' => e = .returned (.tuple #[]) ∧ TxAt w' b (t.see r) ap oo cp oc ∧ Kept (One b) w w' := by
  obtain ⟨u, HU⟩ : ∃ u, Hid (u = t.see r) := ⟨_, rfl⟩
  rw [← HU.out]
  have hlt : b < w.heap.size := lt_of_block h
  obtain ⟨W, hW⟩ : ∃ W, W = w.alloc (.cells #[.int .i64 r.kd, .string (bs r.v), .int .i64 r.n, .slice ko r.ks.length kc] 50) := ⟨_, rfl⟩
  obtain ⟨A, HAe⟩ : ∃ A, Hid (A = w.heap.size) := ⟨_, rfl⟩
  have KW : Hid (Kept Nil w W) := by rw [hW]; exact (Kept.refl _ _).alloc _
  have HAW : Hid (W.heap[A]? = some (.cells #[.int .i64 r.kd, .string (bs r.v), .int .i64 r.n, .slice ko r.ks.length kc] 50 (0, 0))) := by rw [hW, HAe.out]; exact blk_new _ _
  have HTW : Hid (TxAt W b t ap oo cp oc) := by rw [hW]; exact h.past _
  have HLW : Hid (LD W) := hL.kept KW.out
  have SS : ∀ X, Kept Nil W X → X.cell? ⟨A, 0, none⟩ = some (.int .i64 r.kd) ∧ X.cell? ⟨A, 1, none⟩ = some (.string (bs r.v)) ∧ X.cell? ⟨A, 2, none⟩ = some (.int .i64 r.n) ∧ X.cell? ⟨A, 3, none⟩ = some (.slice ko r.ks.length kc) := fun X kX =>
    ⟨blk_at (kX.block _ _ HAW.out (fun x => x.elim)) 0 rfl, blk_at (kX.block _ _ HAW.out (fun x => x.elim)) 1 rfl, blk_at (kX.block _ _ HAW.out (fun x => x.elim)) 2 rfl, blk_at (kX.block _ _ HAW.out (fun x => x.elim)) 3 rfl⟩
  have TS : ∀ X, Kept Nil W X → X.cell? ⟨b, 6, none⟩ = some (.int .i64 t.sn.n) ∧ X.cell? ⟨b, 7, none⟩ = some (.int .i64 t.sn.b) ∧ X.cell? ⟨b, 8, none⟩ = some (.int .i64 t.sn.t) ∧ X.cell? ⟨b, 9, none⟩ = some (.int .i64 t.vr) ∧ X.frozen? ⟨b, 6, none⟩ = false ∧ X.frozen? ⟨b, 7, none⟩ = false ∧ X.frozen? ⟨b, 8, none⟩ = false ∧ X.frozen? ⟨b, 9, none⟩ = false := fun X kX => by
    have hb := HTW.out.kept kX
    exact ⟨blk_at hb 6 rfl, blk_at hb 7 rfl, blk_at hb 8 rfl, blk_at hb 9 rfl, blk_free hb 6, blk_free hb 7, blk_free hb 8, blk_free hb 9⟩
  have SD := fun X => said_any r ko kc X
  have VO := fun X => versionOf_any r ko kc X
  unfold rrV at SD VO
  obtain ⟨g, HG⟩ : ∃ g, Hid (g = hdOf (saidR r)) := ⟨_, rfl⟩
  have RD : ∀ X, Kept Nil W X → Calls Tryz.prog 72 #[.string (bs (saidR r))] X (HdPost X g) := fun X kX => by
    rw [HG.out]
    exact read_any _ (by unfold saidR; split; omega; simp) X (HLW.out.kept kX)
  obtain ⟨v, HV⟩ : ∃ v, Hid (v = versR r) := ⟨_, rfl⟩
  rw [← HV.out] at VO
  have KD : Hid (Kept Nil W W.drew) := (Kept.refl _ _).drew
  have s0 := SS W (Kept.refl _ _)
  have hAb : A ≠ b := by rw [HAe.out]; omega
  have hbA : b ≠ A := fun e => hAb e.symm
  clear h hL
  unfold rrV
  go_enter Tryz.func107, Tryz.ntmps107
  go_wp2_with fail
  rw [← hW, ← HAe.out]
  clear hW
  go_region_held3 (fun w' => w'.cell? ⟨A, 0, none⟩ = some (.int .i64 r.kd) ∧ w'.cell? ⟨A, 1, none⟩ = some (.string (bs r.v)) ∧ w'.cell? ⟨A, 2, none⟩ = some (.int .i64 r.n) ∧ w'.cell? ⟨A, 3, none⟩ = some (.slice ko r.ks.length kc)) (first | assumption | go_keep) (first | (go_at_call 73; first | (go_fit (SD W.drew); rintro e wa ⟨rfl, ka⟩; have Ka : Hid (Kept Nil W wa) := KD.out.trans ka; have sa := SS wa Ka.out) | (go_fit (SD wc); rintro e wa ⟨rfl, ka⟩; have Ka : Hid (Kept Nil W wa) := Kc.out.trans ka; have sa := SS wa Ka.out)) | (go_at_call 72; first | (go_fit (RD wa Ka.out); rintro e wb ⟨rfl, kb⟩; have Kb : Hid (Kept Nil W wb) := Ka.out.trans kb; have sb := SS wb Kb.out; obtain ⟨x6, x7, x8, x9, y6, y7, y8, y9⟩ := TS wb Kb.out) | (go_fit (RD wc Kc.out); rintro e wb ⟨rfl, kb⟩; have Kb : Hid (Kept Nil W wb) := Kc.out.trans kb; have sb := SS wb Kb.out; obtain ⟨x6, x7, x8, x9, y6, y7, y8, y9⟩ := TS wb Kb.out)) | (go_at_call 109; first | (go_fit (VO W.drew); rintro e wc ⟨rfl, kc⟩; have Kc : Hid (Kept Nil W wc) := KD.out.trans kc; have sc := SS wc Kc.out; obtain ⟨x6, x7, x8, x9, y6, y7, y8, y9⟩ := TS wc Kc.out) | (go_fit (VO wa); rintro e wc ⟨rfl, kc⟩; have Kc : Hid (Kept Nil W wc) := Ka.out.trans kc; have sc := SS wc Kc.out; obtain ⟨x6, x7, x8, x9, y6, y7, y8, y9⟩ := TS wc Kc.out) | (go_fit (VO wb); rintro e wc ⟨rfl, kc⟩; have Kc : Hid (Kept Nil W wc) := Kb.out.trans kc; have sc := SS wc Kc.out; obtain ⟨x6, x7, x8, x9, y6, y7, y8, y9⟩ := TS wc Kc.out)))
  obtain ⟨V, hV⟩ : ∃ V, V = (((wc.setCell ⟨b, 6, none⟩ (.int .i64 g.n)).setCell ⟨b, 7, none⟩ (.int .i64 g.b)).setCell ⟨b, 8, none⟩ (.int .i64 g.t)).setCell ⟨b, 9, none⟩ (.int .i64 v) := ⟨_, rfl⟩
  have HF : Hid (TxAt V b u ap oo cp oc ∧ Kept (One b) w V) := by
    rw [HU.out, hV]
    unfold Tx.see
    rw [← HG.out, ← HV.out]
    exact ⟨((HTW.out.kept Kc.out).s678 g).s9 v, (((((KW.out.trans Kc.out).mono (fun _ _ x => x.elim)).setCell (p := ⟨b, 6, none⟩) (fun _ => rfl) _).setCell (p := ⟨b, 7, none⟩) (fun _ => rfl) _).setCell (p := ⟨b, 8, none⟩) (fun _ => rfl) _).setCell (p := ⟨b, 9, none⟩) (fun _ => rfl) _⟩
  rw [← hV]
  clear hV
  go_end0
  exact ⟨rfl, HF.out⟩
set_option maxRecDepth 100000 in
set_option maxHeartbeats 4000000 in
theorem asked_any (w : World) (b : Nat) (t : Tx) (ap oo : Option Addr) (cp oc : Nat) (h : TxAt w b t ap oo cp oc) (r : Rr) (ko : Option Addr) (kc : Nat) :
    Calls Tryz.prog 61 #[.pointer (some ⟨b, 0, none⟩), rrV r ko kc] w fun e w' => e = .returned (.tuple #[]) ∧ TxAt w' b (t.asked r) ap oo cp oc ∧ Kept (One b) w w' := by
  obtain ⟨u, HU⟩ : ∃ u, Hid (u = t.asked r) := ⟨_, rfl⟩
  rw [← HU.out]
  have hlt : b < w.heap.size := lt_of_block h
  obtain ⟨W, hW⟩ : ∃ W, W = w.alloc (.cells #[.int .i64 r.kd, .string (bs r.v), .int .i64 r.n, .slice ko r.ks.length kc] 50) := ⟨_, rfl⟩
  obtain ⟨A, HAe⟩ : ∃ A, Hid (A = w.heap.size) := ⟨_, rfl⟩
  have KW : Hid (Kept Nil w W) := by rw [hW]; exact (Kept.refl _ _).alloc _
  have HAW : Hid (W.heap[A]? = some (.cells #[.int .i64 r.kd, .string (bs r.v), .int .i64 r.n, .slice ko r.ks.length kc] 50 (0, 0))) := by rw [hW, HAe.out]; exact blk_new _ _
  have HTW : Hid (TxAt W b t ap oo cp oc) := by rw [hW]; exact h.past _
  have SD := said_any r ko kc W
  have VO := fun X => versionOf_any r ko kc X
  unfold rrV at SD VO
  obtain ⟨v, HV⟩ : ∃ v, Hid (v = versR r) := ⟨_, rfl⟩
  rw [← HV.out] at VO
  obtain ⟨s, HS⟩ : ∃ s, Hid (s = saidR r) := ⟨_, rfl⟩
  rw [← HS.out] at SD
  obtain ⟨d, HD⟩ : ∃ d : Bool, Hid (d = decide (saidR r = wDon)) := ⟨_, rfl⟩
  have hd : ((bs s).toList == ([100, 111, 110, 101] : List UInt8)) = d := by
    rw [bs_toList, HD.out, HS.out, Bool.eq_iff_iff]
    simp
    rfl
  have e0 : W.cell? ⟨A, 0, none⟩ = some (.int .i64 r.kd) := blk_at ((Kept.refl Nil W).block _ _ HAW.out (fun x => x.elim)) 0 rfl
  have e1 : W.cell? ⟨A, 1, none⟩ = some (.string (bs r.v)) := blk_at ((Kept.refl Nil W).block _ _ HAW.out (fun x => x.elim)) 1 rfl
  have e2 : W.cell? ⟨A, 2, none⟩ = some (.int .i64 r.n) := blk_at ((Kept.refl Nil W).block _ _ HAW.out (fun x => x.elim)) 2 rfl
  have e3 : W.cell? ⟨A, 3, none⟩ = some (.slice ko r.ks.length kc) := blk_at ((Kept.refl Nil W).block _ _ HAW.out (fun x => x.elim)) 3 rfl
  clear h
  unfold rrV
  go_enter Tryz.func61, Tryz.ntmps61
  go_wp2_with fail
  rw [← hW, ← HAe.out]
  clear hW
  go_fit SD
  clear SD e0 e1 e2 e3
  rintro _ w1 ⟨rfl, k1⟩
  have K1 : Hid (Kept Nil W w1) := k1
  clear k1
  have e0 : w1.cell? ⟨A, 0, none⟩ = some (.int .i64 r.kd) := blk_at (K1.out.block _ _ HAW.out (fun x => x.elim)) 0 rfl
  have e1 : w1.cell? ⟨A, 1, none⟩ = some (.string (bs r.v)) := blk_at (K1.out.block _ _ HAW.out (fun x => x.elim)) 1 rfl
  have e2 : w1.cell? ⟨A, 2, none⟩ = some (.int .i64 r.n) := blk_at (K1.out.block _ _ HAW.out (fun x => x.elim)) 2 rfl
  have e3 : w1.cell? ⟨A, 3, none⟩ = some (.slice ko r.ks.length kc) := blk_at (K1.out.block _ _ HAW.out (fun x => x.elim)) 3 rfl
  go_wp2_with fail
  go_fit (VO w1)
  clear VO e0 e1 e2 e3
  rintro _ w2 ⟨rfl, k2⟩
  have K2 : Hid (Kept Nil W w2) := K1.out.trans k2
  clear k2
  have HT2 : Hid (TxAt w2 b t ap oo cp oc) := HTW.out.kept K2.out
  have K3 : Hid (Kept (One b) w w2) := (KW.out.trans K2.out).mono (fun _ _ x => x.elim)
  have q4 : w2.cell? ⟨b, 4, none⟩ = some (.int .i64 t.ph) := blk_at HT2.out 4 rfl
  have q10 : w2.cell? ⟨b, 10, none⟩ = some (.bool t.hd) := blk_at HT2.out 10 rfl
  have q11 : w2.cell? ⟨b, 11, none⟩ = some (.int .i64 t.hv) := blk_at HT2.out 11 rfl
  have f4 : w2.frozen? ⟨b, 4, none⟩ = false := blk_free HT2.out 4
  have f10 : w2.frozen? ⟨b, 10, none⟩ = false := blk_free HT2.out 10
  have f11 : w2.frozen? ⟨b, 11, none⟩ = false := blk_free HT2.out 11
  by_cases c : saidR r = wOpen
  · have ho : ((bs s).toList == ([111, 112, 101, 110] : List UInt8)) = true := by rw [bs_toList, HS.out, c]; rfl
    obtain ⟨V, hV⟩ : ∃ V, V = (((w2.setCell ⟨b, 10, none⟩ (.bool d)).setCell ⟨b, 11, none⟩ (.int .i64 v)).setCell ⟨b, 4, none⟩ (.int .i64 5)).setCell ⟨b, 4, none⟩ (.int .i64 4) := ⟨_, rfl⟩
    have HF : Hid (TxAt V b u ap oo cp oc ∧ Kept (One b) w V) := by
      rw [HU.out, hV]
      unfold Tx.asked
      rw [← HD.out, ← HV.out, if_pos c]
      exact ⟨(((HT2.out.s10 d).s11 v).s4 5).s4 4, (((K3.out.setCell (p := ⟨b, 10, none⟩) (fun _ => rfl) _).setCell (p := ⟨b, 11, none⟩) (fun _ => rfl) _).setCell (p := ⟨b, 4, none⟩) (fun _ => rfl) _).setCell (p := ⟨b, 4, none⟩) (fun _ => rfl) _⟩
    clear c
    go_wp2
    rw [← hV]
    go_end0
    exact ⟨rfl, HF.out⟩
  · have ho : ((bs s).toList == ([111, 112, 101, 110] : List UInt8)) = false := by
      have c' : ¬ saidR r = [111, 112, 101, 110] := c
      rw [bs_toList, HS.out]
      simpa using c'
    obtain ⟨V, hV⟩ : ∃ V, V = ((w2.setCell ⟨b, 10, none⟩ (.bool d)).setCell ⟨b, 11, none⟩ (.int .i64 v)).setCell ⟨b, 4, none⟩ (.int .i64 5) := ⟨_, rfl⟩
    have HF : Hid (TxAt V b u ap oo cp oc ∧ Kept (One b) w V) := by
      rw [HU.out, hV]
      unfold Tx.asked
      rw [← HD.out, ← HV.out, if_neg c]
      exact ⟨((HT2.out.s10 d).s11 v).s4 5, ((K3.out.setCell (p := ⟨b, 10, none⟩) (fun _ => rfl) _).setCell (p := ⟨b, 11, none⟩) (fun _ => rfl) _).setCell (p := ⟨b, 4, none⟩) (fun _ => rfl) _⟩
    clear c
    go_wp2
    rw [← hV]
    go_end0
    exact ⟨rfl, HF.out⟩
end Go.Proofs.YtflnjlbafchnaaaGreatDoor
