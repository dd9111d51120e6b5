/-
  Joined: WTx7.
-/
import Derived.Test.YtflnjlbafchnaaaGreatDoorR10
/-
  Transactions: looked, cleared (the program).
-/
namespace Go.Proofs.YtflnjlbafchnaaaGreatDoor
open Go.RowKit

def ptCells (ps : List Pt) : List Value := ps.flatMap fun p => [Value.string (bs p.k), .int .i64 p.a]
theorem ptCells_len (ps : List Pt) : (ptCells ps).length = ps.length * 2 := by
  induction ps with
  | nil => rfl
  | cons p ps ih =>
    have e : ptCells (p :: ps) = .string (bs p.k) :: .int .i64 p.a :: ptCells ps := rfl
    rw [e, List.length_cons, List.length_cons, List.length_cons, ih]
    omega
theorem ptCells_at (ps : List Pt) : ∀ j, (hj : j < ps.length) → (ptCells ps)[j * 2]? = some (.string (bs ps[j].k)) ∧ (ptCells ps)[j * 2 + 1]? = some (.int .i64 ps[j].a) := by
  induction ps with
  | nil => intro j hj; simp at hj
  | cons p ps ih =>
    intro j hj
    cases j with
    | zero => exact ⟨rfl, rfl⟩
    | succ j =>
      have := ih j (by simpa using hj)
      have e : ptCells (p :: ps) = .string (bs p.k) :: .int .i64 p.a :: ptCells ps := rfl
      rw [e, show (j + 1) * 2 = j * 2 + 1 + 1 by omega]
      exact this
/-- Parts of one's own. -/
def OwnT (B : Nat) (w : World) (ao : Option Addr) (c : Nat) (ps : List Pt) : Prop := w.ownsRow B 29 2 (.slice ao ps.length c) ps.length (ptCells ps)
theorem OwnT.keptX {B c : Nat} {w w' : World} {ao : Option Addr} {ps : List Pt} {X : Nat → Obj → Prop} (h : OwnT B w ao c ps) (hk : Kept X w w') (hX : ∀ a, ao = some a → ∀ o, ¬ X a.block o) : OwnT B w' ao c ps := by
  refine ⟨h.1, h.2.imp id ?_⟩
  rintro ⟨g, cap, cur, h1, h2, h3, h4⟩
  simp only [Value.slice.injEq] at h1
  refine ⟨g, cap, cur, by simp [h1], h2, hk.block _ _ h3 (hX _ h1.1 _), h4⟩
theorem OwnT.lt {B c : Nat} {w : World} {ao : Option Addr} {ps : List Pt} (h : OwnT B w ao c ps) : ∀ a, ao = some a → B ≤ a.block ∧ ∃ cur fr, w.heap[a.block]? = some (.cells cur 29 fr) := fun a ha => by
  rcases h.2 with ⟨h1, _⟩ | ⟨g, cap, cur, h1, h2, h3, _⟩
  · simp at h1
    rw [h1.1] at ha
    cases ha
  · simp only [Value.slice.injEq] at h1
    rw [h1.1] at ha
    cases ha
    exact ⟨h2, _, _, h3⟩
theorem OwnT.row {B c : Nat} {w : World} {ao : Option Addr} {ps : List Pt} (h : OwnT B w ao c ps) : PtRow w.heap.size w ao ps := fun j hj => by
  rcases h.2 with ⟨h1, _⟩ | ⟨g, cap, cur, hv, hb, hh, h1, h2, h3, h4⟩
  · simp at h1
    rw [h1.2.1] at hj
    simp at hj
  · simp only [Value.slice.injEq] at hv
    obtain ⟨rfl, _, _⟩ := hv
    have hc : ∀ (q : Nat) (v : Value), (ptCells ps)[q]? = some v → cur[q]? = some v := fun q v hq => by
      have := congrArg (fun l : List Value => l[q]?) h4
      have hlt : q < ps.length * 2 := by
        rw [← ptCells_len]
        exact (List.getElem?_eq_some_iff.1 hq).1
      simp only [List.getElem?_take, if_pos hlt, Array.getElem?_toList] at this
      rw [this]
      exact hq
    obtain ⟨e1, e2⟩ := ptCells_at ps j hj
    refine ⟨_, rfl, lt_of_block hh, ?_, ?_⟩
    · rw [Addr.add_lit, blk_cell hh]
      simpa using hc _ _ e1
    · rw [Addr.add_lit]
      show w.cell? ⟨g, 0 + j * 2 + 1, none⟩ = _
      rw [blk_cell hh, Nat.zero_add]
      exact hc _ _ e2
theorem OwnT.ne {B c b : Nat} {w : World} {ao : Option Addr} {ps : List Pt} {t : Tx} {ap oo : Option Addr} {cp oc : Nat} (h : OwnT B w ao c ps) (hT : TxAt w b t ap oo cp oc) : ∀ a, ao = some a → a.block ≠ b := fun a ha e => by
  obtain ⟨_, cur, fr, hb⟩ := h.lt a ha
  rw [e] at hb
  have := hb.symm.trans hT
  simp at this
theorem OwnT.neI {B B' c c' : Nat} {w : World} {ao ai : Option Addr} {ps : List Pt} {zs : List Int} (h : OwnT B w ao c ps) (hI : OwnI B' w ai c' zs) : ∀ a x, ao = some a → ai = some x → a.block ≠ x.block := fun a x ha hx e => by
  obtain ⟨_, cur, fr, hb⟩ := h.lt a ha
  obtain ⟨_, cur2, fr2, hb2⟩ := hI.lt x hx
  rw [e] at hb
  have := hb.symm.trans hb2
  simp at this
theorem OwnT.tx {B c b : Nat} {w w' : World} {ap : Option Addr} {ps : List Pt} {t : Tx} {ap' oo : Option Addr} {cp oc B' : Nat} (h : OwnT B w ap c ps) (hT : TxAt w b t ap' oo cp oc) (hI : OwnI B' w oo oc t.old) (hk : Kept (TxX b oo) w w') : OwnT B w' ap c ps :=
  h.keptX hk (fun a ha _ x => by
    rcases x with x | ⟨y, hy, x⟩
    · exact h.ne hT a ha x
    · exact h.neI hI a y ha hy x.symm)
theorem TxPost.after {B : Nat} {w w2 w' : World} {b : Nat} {u : Tx} {ap oo : Option Addr} {cp : Nat} {e : Ending} (hk : Kept (One b) w w2) (p : TxPost B w2 b u ap oo cp e w') : TxPost B w b u ap oo cp e w' := by
  obtain ⟨rfl, oo', oc', h1, h2, h3, h4⟩ := p
  exact ⟨rfl, oo', oc', h1, h2, (hk.mono (fun _ _ x => .inl x)).trans h3, fun a ha => (h4 a ha).imp id (fun x => Nat.le_trans hk.size x)⟩
theorem Kept.oneNil {b : Nat} {w w' : World} (h : Kept Nil w w') : Kept (One b) w w' := h.mono (fun _ _ x => x.elim)
set_option maxRecDepth 100000 in
set_option maxHeartbeats 4000000 in
theorem looked_any (w : World) (b : Nat) (t : Tx) (ap oo : Option Addr) (cp oc : Nat) (h : TxAt w b t ap oo cp oc) (B : Nat) (hP : OwnT B w ap cp t.ps) (hO : OwnI B w oo oc t.old) (hB : B ≤ w.heap.size) (hK : t.Ok) (hL : LD w) (r : Rr) (ko : Option Addr) (kc : Nat) (hv : r.v.length ≤ 1048576) :
    Calls Tryz.prog 59 #[.pointer (some ⟨b, 0, none⟩), rrV r ko kc] w (TxPost B w b (t.looked r) ap oo cp) := by
  obtain ⟨u, HU⟩ : ∃ u, Hid (u = t.looked r) := ⟨_, rfl⟩
  rw [← HU.out]
  have hlt : b < w.heap.size := lt_of_block h
  have HK : Hid (t.Ok) := hK
  have HP : Hid (OwnT B w ap cp t.ps) := hP
  have HO : Hid (OwnI B w oo oc t.old) := hO
  have HBw : Hid (B ≤ w.heap.size) := hB
  obtain ⟨W, hW⟩ : ∃ W, W = w.alloc (.cells #[.int .i64 r.kd, .string (bs r.v), .int .i64 r.n, .slice ko r.ks.length kc] 50) := ⟨_, rfl⟩
  obtain ⟨A, HAe⟩ : ∃ A, Hid (A = w.heap.size) := ⟨_, rfl⟩
  have KW : Hid (Kept Nil w W) := by rw [hW]; exact (Kept.refl _ _).alloc _
  have HAW : Hid (W.heap[A]? = some (.cells #[.int .i64 r.kd, .string (bs r.v), .int .i64 r.n, .slice ko r.ks.length kc] 50 (0, 0))) := by rw [hW, HAe.out]; exact blk_new _ _
  have HTW : Hid (TxAt W b t ap oo cp oc) := by rw [hW]; exact h.past _
  have SE := see_any W b t ap oo cp oc HTW.out r ko kc (hL.kept KW.out) hv
  unfold rrV at SE
  have e0 : W.cell? ⟨A, 0, none⟩ = some (.int .i64 r.kd) := blk_at ((Kept.refl Nil W).block _ _ HAW.out (fun x => x.elim)) 0 rfl
  have e1 : W.cell? ⟨A, 1, none⟩ = some (.string (bs r.v)) := blk_at ((Kept.refl Nil W).block _ _ HAW.out (fun x => x.elim)) 1 rfl
  have e2 : W.cell? ⟨A, 2, none⟩ = some (.int .i64 r.n) := blk_at ((Kept.refl Nil W).block _ _ HAW.out (fun x => x.elim)) 2 rfl
  have e3 : W.cell? ⟨A, 3, none⟩ = some (.slice ko r.ks.length kc) := blk_at ((Kept.refl Nil W).block _ _ HAW.out (fun x => x.elim)) 3 rfl
  have H : Hid (TxAt w b t ap oo cp oc) := h
  clear h hP hO hB hK hL hv
  unfold rrV
  go_enter Tryz.func59, Tryz.ntmps59
  go_wp2_with fail
  rw [← hW, ← HAe.out]
  clear hW
  go_fit SE
  clear SE e0 e1 e2 e3
  rintro _ w1 ⟨rfl, t1, k1⟩
  have K1 : Hid (Kept (One b) w w1) := KW.out.oneNil.trans k1
  obtain ⟨s, HS⟩ : ∃ s, Hid (s = t.see r) := ⟨_, rfl⟩
  rw [← HS.out] at t1
  have HT1 : Hid (TxAt w1 b s ap oo cp oc) := t1
  have HP1 : Hid (OwnT B w1 ap cp s.ps) := by rw [HS.out]; exact HP.out.keptX K1.out (fun a ha _ x => HP.out.ne H.out a ha x)
  have HO1 : Hid (OwnI B w1 oo oc s.old) := by rw [HS.out]; exact HO.out.keptX K1.out (fun a ha _ x => HO.out.ne H.out a ha x)
  have HB1 : Hid (B ≤ w1.heap.size) := Nat.le_trans HBw.out K1.out.size
  have HSo : Hid (s.sn.Ok ∧ s.ps = t.ps ∧ s.at' = t.at' ∧ s.old = t.old ∧ s.id = t.id) := by rw [HS.out]; exact ⟨hdOf_ok _, rfl, rfl, rfl, rfl⟩
  clear t1 k1
  have HUs : Hid (u = s.looked') := by show _ = _; rw [HU.out, HS.out]; rfl
  have HPT : Hid (s.part = t.part) := by
    have := HSo.out
    show _ = _
    unfold Tx.part
    rw [this.2.1, this.2.2.1]
  have hat : s.at' < s.ps.length := by rw [HSo.out.2.1, HSo.out.2.2.1]; exact HK.out.at'
  have hpk := HK.out.keys t.part (by unfold Tx.part; rw [List.getElem?_eq_getElem HK.out.at']; exact List.getElem_mem _)
  have HE := held_any w1 b s ap oo cp oc HT1.out w1.heap.size HP1.out.row hat (by rw [HPT.out]; exact hpk.2.2) HSo.out.1.n
  have hz1 : -999999999 ≤ s.thenZ ∧ s.thenZ ≤ 1999999998 := by
    have h1 := hpk.2.2
    rw [← HPT.out] at h1
    have h2 := HSo.out.1.n
    unfold Tx.thenZ
    omega
  obtain ⟨z, HZ⟩ : ∃ z, Hid (z = s.thenZ) := ⟨_, rfl⟩
  rw [← HZ.out] at HE hz1
  have hfld : ∀ X, (Instr.field 104 (.agg #[.int .i64 s.sn.n, .int .i64 s.id, .int .i64 z]) 2).run Tryz.prog X = .ok (.int .i64 z) X := fun _ => by kernel_rfl
  clear hpk hat
  go_wp2_with fail
  go_fit HE
  clear HE
  rintro _ w2 ⟨rfl, k2⟩
  have K2 : Hid (Kept (One b) w w2) := K1.out.trans k2.oneNil
  have HT2 : Hid (TxAt w2 b s ap oo cp oc) := HT1.out.kept k2
  have HO2 : Hid (OwnI B w2 oo oc s.old) := HO1.out.kept k2
  have HB2 : Hid (B ≤ w2.heap.size) := Nat.le_trans HB1.out k2.size
  clear k2
  obtain ⟨X, hX⟩ : ∃ X, X = w2.drew := ⟨_, rfl⟩
  have KX : Hid (Kept (One b) w X) := by rw [hX]; exact K2.out.drew
  have HTX : Hid (TxAt X b s ap oo cp oc) := by rw [hX]; exact HT2.out
  have HOX : Hid (OwnI B X oo oc s.old) := by rw [hX]; exact HO2.out.kept ((Kept.refl _ _).drew)
  have HBX : Hid (B ≤ X.heap.size) := by rw [hX]; exact HB2.out
  have p0 : w2.cell? ⟨b, 0, none⟩ = some (.int .i64 s.id) := blk_at HT2.out 0 rfl
  have p4 : w2.cell? ⟨b, 4, none⟩ = some (.int .i64 s.ph) := blk_at HT2.out 4 rfl
  have p7 : w2.cell? ⟨b, 7, none⟩ = some (.int .i64 s.sn.b) := blk_at HT2.out 7 rfl
  have f4 : w2.frozen? ⟨b, 4, none⟩ = false := blk_free HT2.out 4
  by_cases c1 : s.sn.b = s.id
  · have hb : ((s.sn.b : Int) == (s.id : Int)) = true := by simp [c1]
    have NT := note_any X b s ap oo cp oc HTX.out B HOX.out HBX.out (by rw [HSo.out.2.1]; exact HK.out.len4) (by rw [HSo.out.2.1, HSo.out.2.2.1]; exact HK.out.at') (by rw [HSo.out.2.2.2.1]; exact HK.out.old)
    rw [show s.note = u by rw [HUs.out]; unfold Tx.looked'; rw [if_pos c1]] at NT
    clear c1
    go_wp2
    go_region
    all_goals
      go_wp2_with fail
      rw [← hX]
      go_fit NT
      rintro _ w5 ⟨rfl, oo', oc', t5, o5, k5, a5⟩
      have HF : Hid (TxPost B w b u ap oo cp (.returned (.tuple #[])) w5) := TxPost.after KX.out ⟨rfl, oo', oc', t5, o5, k5, a5⟩
      clear t5 o5 k5 a5
      go_wp2
      go_end0
      exact HF.out
  · have hb : ((s.sn.b : Int) == (s.id : Int)) = false := by simp; omega
    by_cases c2 : 0 < s.sn.b
    · have hb2 : (0 : Int) < (s.sn.b : Int) := by omega
      go_wp2
      obtain ⟨V, hV⟩ : ∃ V, V = (w2.setCell ⟨b, 4, none⟩ (.int .i64 3)).drew := ⟨_, rfl⟩
      have HF : Hid (TxPost B w b u ap oo cp (.returned (.tuple #[])) V) := by
        refine TxPost.after K2.out (TxPost.same HO2.out HT2.out ?_ ?_ ?_)
        · rw [HUs.out, hV]
          unfold Tx.looked'
          rw [if_neg c1, if_pos c2]
          exact HT2.out.s4 3
        · rw [hV]; exact ((Kept.refl _ _).setCell (p := ⟨b, 4, none⟩) (fun _ => rfl) _).drew
        · rw [HUs.out]
          unfold Tx.looked'
          rw [if_neg c1, if_pos c2]
      clear hX
      go_region
      all_goals
        go_wp2
        rw [← hV]
        go_end0
        exact HF.out
    · have hb2 : ¬ (0 : Int) < (s.sn.b : Int) := by omega
      by_cases c3 : z < 0
      · go_wp2
        obtain ⟨V, hV⟩ : ∃ V, V = (w2.setCell ⟨b, 4, none⟩ (.int .i64 7)).drew := ⟨_, rfl⟩
        have HF : Hid (TxPost B w b u ap oo cp (.returned (.tuple #[])) V) := by
          refine TxPost.after K2.out (TxPost.same HO2.out HT2.out ?_ ?_ ?_)
          · rw [HUs.out, hV]
            unfold Tx.looked'
            rw [if_neg c1, if_neg c2, if_pos (.inl (by rw [← HZ.out]; exact c3))]
            exact HT2.out.s4 7
          · rw [hV]; exact ((Kept.refl _ _).setCell (p := ⟨b, 4, none⟩) (fun _ => rfl) _).drew
          · rw [HUs.out]
            unfold Tx.looked'
            rw [if_neg c1, if_neg c2, if_pos (.inl (by rw [← HZ.out]; exact c3))]
        clear hX
        go_region
        all_goals
          go_wp2
          rw [← hV]
          go_end0
          exact HF.out
      · by_cases c4 : 999999999 < z
        · go_wp2
          obtain ⟨V, hV⟩ : ∃ V, V = (w2.setCell ⟨b, 4, none⟩ (.int .i64 7)).drew := ⟨_, rfl⟩
          have HF : Hid (TxPost B w b u ap oo cp (.returned (.tuple #[])) V) := by
            refine TxPost.after K2.out (TxPost.same HO2.out HT2.out ?_ ?_ ?_)
            · rw [HUs.out, hV]
              unfold Tx.looked'
              rw [if_neg c1, if_neg c2, if_pos (.inr (by rw [← HZ.out]; exact c4))]
              exact HT2.out.s4 7
            · rw [hV]; exact ((Kept.refl _ _).setCell (p := ⟨b, 4, none⟩) (fun _ => rfl) _).drew
            · rw [HUs.out]
              unfold Tx.looked'
              rw [if_neg c1, if_neg c2, if_pos (.inr (by rw [← HZ.out]; exact c4))]
          clear hX
          go_region
          all_goals
            go_wp2
            rw [← hV]
            go_end0
            exact HF.out
        · go_wp2
          obtain ⟨V, hV⟩ : ∃ V, V = (w2.setCell ⟨b, 4, none⟩ (.int .i64 2)).drew := ⟨_, rfl⟩
          have HF : Hid (TxPost B w b u ap oo cp (.returned (.tuple #[])) V) := by
            refine TxPost.after K2.out (TxPost.same HO2.out HT2.out ?_ ?_ ?_)
            · rw [HUs.out, hV]
              unfold Tx.looked'
              rw [if_neg c1, if_neg c2, if_neg (by rw [← HZ.out]; omega)]
              exact HT2.out.s4 2
            · rw [hV]; exact ((Kept.refl _ _).setCell (p := ⟨b, 4, none⟩) (fun _ => rfl) _).drew
            · rw [HUs.out]
              unfold Tx.looked'
              rw [if_neg c1, if_neg c2, if_neg (by rw [← HZ.out]; omega)]
          clear hX
          go_region
          all_goals
            go_wp2
            rw [← hV]
            go_end0
            exact HF.out
end Go.Proofs.YtflnjlbafchnaaaGreatDoor
