/-
  SessionExact: what stands between the steps of its walk.
-/
import Derived.Test.YtblmmbghnkplkaaWSxR9
import Derived.Test.YtblmmbghnkplkaaWTabS
namespace Go.Proofs.Ytblmmbghnkplkaa
open Go.RowKit

/-- A row of requests that lies below block B. -/
def RqRow (B : Nat) (w : World) (ao : Option Addr) (qs : List Rq) : Prop := ∀ j, (hj : j < qs.length) → ∃ a, ao = some a ∧ a.block < B ∧ w.cell? (a.add (j * 7)) = some (.int .i64 qs[j].cl) ∧ w.cell? ⟨(a.add (j * 7)).block, (a.add (j * 7)).off + 1, none⟩ = some (.int .i64 qs[j].nm) ∧ w.cell? ⟨(a.add (j * 7)).block, (a.add (j * 7)).off + 2, none⟩ = some (.int .i64 qs[j].kd) ∧ w.cell? ⟨(a.add (j * 7)).block, (a.add (j * 7)).off + 3, none⟩ = some (.string (bs qs[j].key)) ∧ w.cell? ⟨(a.add (j * 7)).block, (a.add (j * 7)).off + 4, none⟩ = some (.string (bs qs[j].val)) ∧ w.cell? ⟨(a.add (j * 7)).block, (a.add (j * 7)).off + 5, none⟩ = some (.int .i64 qs[j].ifv) ∧ w.cell? ⟨(a.add (j * 7)).block, (a.add (j * 7)).off + 6, none⟩ = some (.int .i64 qs[j].tm) ∧ qs[j].key.length ≤ maxLen ∧ qs[j].val.length ≤ maxLen
theorem RqRow.nil {B : Nat} {w w' : World} {ao : Option Addr} {qs : List Rq} (h : RqRow B w ao qs) (hk : Kept Nil w w') : RqRow B w' ao qs := fun j hj => by
  obtain ⟨a, ha, hb, c0, c1, c2, c3, c4, c5, c6, l1, l2⟩ := h j hj
  exact ⟨a, ha, hb, cell_kept hk (fun _ x => x) c0, cell_kept hk (fun _ x => x) c1, cell_kept hk (fun _ x => x) c2, cell_kept hk (fun _ x => x) c3, cell_kept hk (fun _ x => x) c4, cell_kept hk (fun _ x => x) c5, cell_kept hk (fun _ x => x) c6, l1, l2⟩
theorem sx_first : sesT [] (([] : List Se).map Se.s) 0 0 0 0 [] [] 0 0 7 = ([], [newS 7 0], 0, ⟨1, [], 7, []⟩) := by rfl
theorem servT_len {ps : List Pr} {ss : List Ss} {tm cl nu kd m : Int} {key val : List UInt8} : ((servT ps ss tm cl nu kd key val m).1.length ≤ max ps.length 33) ∧ (servT ps ss tm cl nu kd key val m).2.1.length ≤ ss.length := by
  unfold servT
  split
  · exact ⟨Nat.le_max_left _ _, Nat.le_refl _⟩
  · split
    · exact ⟨Nat.le_max_left _ _, Nat.le_refl _⟩
    · repeat' split
      all_goals refine ⟨?_, by simp⟩
      · exact Nat.le_max_left _ _
      · exact Nat.le_max_left _ _
      · exact apP_len (Nat.le_max_right _ _) (Nat.le_max_left _ _)
      · exact Nat.le_max_left _ _
theorem openT_len {ps : List Pr} {ss : List Ss} {tm ix : Int} : (openT ps ss tm ix).1.length ≤ ps.length ∧ (openT ps ss tm ix).2.1.length ≤ ss.length + 1 := by
  unfold openT
  split
  · exact ⟨Nat.le_refl _, Nat.le_succ _⟩
  · refine ⟨Nat.le_refl _, ?_⟩
    have hr : (roomS ss).length ≤ ss.length := by
      unfold roomS
      split
      · exact Nat.le_refl _
      · exact List.length_filter_le _ _
    unfold insS
    rw [List.length_append, List.length_cons, List.length_take, List.length_drop]
    omega
theorem sesT_len {ps : List Pr} {ss : List Ss} {tm cl nu kd m tq ix : Int} {key val : List UInt8} : ((sesT ps ss tm cl nu kd key val m tq ix).1.length ≤ max ps.length 33) ∧ (sesT ps ss tm cl nu kd key val m tq ix).2.1.length ≤ max ss.length 9 := by
  unfold sesT
  split
  · rename_i h
    simp only [Bool.and_eq_true] at h
    have h8 := (tab_facts h.2).2.2.1
    have hf := List.length_filter_le (fun s : Ss => !decide (s.sn + 400 < max tm tq)) ss
    unfold runT
    split
    · have h1 := openT_len (ps := ps) (ss := ss.filter fun s => !decide (s.sn + 400 < max tm tq)) (tm := max tm tq) (ix := ix)
      exact ⟨Nat.le_trans h1.1 (Nat.le_max_left _ _), by have := h1.2; dsimp only; omega⟩
    · have h1 := servT_len (ps := ps) (ss := ss.filter fun s => !decide (s.sn + 400 < max tm tq)) (tm := max tm tq) (cl := cl) (nu := nu) (kd := kd) (key := key) (val := val) (m := m)
      exact ⟨h1.1, by have := h1.2; dsimp only; omega⟩
  · exact ⟨Nat.le_max_left _ _, Nat.le_max_left _ _⟩
/-- What is so between two rounds. -/
structure LI (w : World) (Tb : Nat) (ps : List Pr) (es : List Se) (tm : Int) (ap sa : Option Addr) (cp cs : Nat) (X : World) : Prop where
  blk : X.heap[Tb]? = some (.cells #[.slice ap ps.length cp, .slice sa es.length cs, .int .i64 tm] 70 (0, 0))
  p : PIn (fun k => k ≠ Tb) X ap cp ps
  s : SIn (fun k => k ≠ Tb) X sa cs es
  lp : ps.length ≤ 3518437208780
  ls : es.length ≤ 1759218604390
  kept : Kept Nil w X
theorem LI.next {w X Y : World} {Tb cp cs : Nat} {ps : List Pr} {es : List Se} {tm : Int} {ap sa : Option Addr} (h : LI w Tb ps es tm ap sa cp cs X) (k : Kept Nil X Y) : LI w Tb ps es tm ap sa cp cs Y :=
  ⟨k.block _ _ h.blk (fun x => x.elim), h.p.kept k, h.s.kept k, h.lp, h.ls, h.kept.trans k⟩

/-- What session.Run told, above the world w1. -/
structure UT (w1 : World) (P1 : List Pr) (S1 : List Ss) (rks : List (List UInt8)) (a1 a2 ko : Option Addr) (c1 c2 kc : Nat) (xs : List Se) (X : World) : Prop where
  op : OwnP w1.heap.size X a1 c1 P1
  oe : OwnE w1.heap.size X a2 c2 xs
  ok : OwnKs w1.heap.size X xs
  or : OwnK w1.heap.size X ko kc rks
  apart : Apart xs ko rks.length kc
  same : xs.map Se.s = S1
  kept : Kept Nil w1 X
theorem UT.next {w1 X Y : World} {P1 : List Pr} {S1 : List Ss} {rks : List (List UInt8)} {a1 a2 ko : Option Addr} {c1 c2 kc : Nat} {xs : List Se} (h : UT w1 P1 S1 rks a1 a2 ko c1 c2 kc xs X) (k : Kept Nil X Y) : UT w1 P1 S1 rks a1 a2 ko c1 c2 kc xs Y :=
  ⟨h.op.kept k, h.oe.kept k, h.ok.kept k, h.or.kept k, h.apart, h.same, h.kept.trans k⟩
theorem UT.len {w1 X : World} {P1 : List Pr} {S1 : List Ss} {rks : List (List UInt8)} {a1 a2 ko : Option Addr} {c1 c2 kc : Nat} {xs : List Se} (h : UT w1 P1 S1 rks a1 a2 ko c1 c2 kc xs X) : xs.length = S1.length := by rw [← h.same, List.length_map]
/-- A table's or a result's cell put. -/
theorem UT.set {w1 X : World} {P1 : List Pr} {S1 : List Ss} {rks : List (List UInt8)} {a1 a2 ko : Option Addr} {c1 c2 kc D i : Nat} {xs : List Se} {cl : Array Value} {t : TypeId} (h : UT w1 P1 S1 rks a1 a2 ko c1 c2 kc xs X) (hD : X.heap[D]? = some (.cells cl t (0, 0))) (ht : t = 70 ∨ t = 55) (hn : w1.heap.size ≤ D) (u : Value) : UT w1 P1 S1 rks a1 a2 ko c1 c2 kc xs (X.setCell ⟨D, i, none⟩ u) := by
  have h1 : ∀ e : TypeId, e = 61 ∨ e = 121 ∨ e = 9 → e ≠ t := by
    rintro e (rfl | rfl | rfl) <;> rcases ht with rfl | rfl <;> decide
  exact ⟨ownsRow_setCell_other h.op (a := ⟨D, i, none⟩) (own_neTyS h.op hD (h1 _ (.inl rfl))) _, ownsRow_setCell_other h.oe (a := ⟨D, i, none⟩) (own_neTyS h.oe hD (h1 _ (.inr (.inl rfl)))) _, fun e he => ownsRow_setCell_other (h.ok e he) (a := ⟨D, i, none⟩) (own_neTyS (h.ok e he) hD (h1 _ (.inr (.inr rfl)))) _, ownsRow_setCell_other h.or (a := ⟨D, i, none⟩) (own_neTyS h.or hD (h1 _ (.inr (.inr rfl)))) _, h.apart, h.same, h.kept.setNew (p := ⟨D, i, none⟩) hn _⟩
/-- Good blocks: not the law's table, not what session.Run has told. -/
def Gk (Tb B C : Nat) : Nat → Prop := fun q => q ≠ Tb ∧ (q < B ∨ C ≤ q)
theorem ut_end {w1 Z X wc : World} {ua ur : Nat} {P1 : List Pr} {S1 : List Ss} {rks : List (List UInt8)} {a1 a2 ko : Option Addr} {c1 c2 kc : Nat} {xs : List Se} (h1 : Kept Nil w1 Z) (h2 : Kept Nil Z X) (h6 : Kept (fun q _ => q = ua ∨ q = ur) X wc) (h7 : w1.heap.size ≤ ua ∧ w1.heap.size ≤ ur ∧ (ua < Z.heap.size ∨ X.heap.size ≤ ua) ∧ (ur < Z.heap.size ∨ X.heap.size ≤ ur)) (mx : xs.map Se.s = S1) (o1 : OwnP Z.heap.size X a1 c1 P1) (o2 : OwnE Z.heap.size X a2 c2 xs) (o3 : OwnKs Z.heap.size X xs) (o4 : OwnK Z.heap.size X ko kc rks) (o5 : Apart xs ko rks.length kc) : UT w1 P1 S1 rks a1 a2 ko c1 c2 kc xs wc := by
  have hx : ∀ (e : TypeId) (q : Nat) (cs : Array Value), Z.heap.size ≤ q → X.heap[q]? = some (.cells cs e (0, 0)) → ¬ (q = ua ∨ q = ur) := fun e q cs hb hh hx => by
    have hl := lt_of_block hh
    rcases hx with h | h <;> omega
  exact ⟨own_mono (own_keptT o1 h6 (hx _)) h1.size, own_mono (own_keptT o2 h6 (hx _)) h1.size, fun e he => own_mono (own_keptT (o3 e he) h6 (hx _)) h1.size, own_mono (own_keptT o4 h6 (hx _)) h1.size, o5, mx, Kept.ofNew (h1.trans h2) h6 (fun q _ hx => by rcases hx with h | h <;> omega)⟩
theorem gk_far {Tb B q : Nat} {w2 Z X : World} {ua ur : Nat} (hB : B ≤ w2.heap.size) (h7 : w2.heap.size ≤ ua ∧ w2.heap.size ≤ ur ∧ (ua < Z.heap.size ∨ X.heap.size ≤ ua) ∧ (ur < Z.heap.size ∨ X.heap.size ≤ ur)) (hq : Gk Tb B Z.heap.size q ∧ q < X.heap.size) : ¬ (q = ua ∨ q = ur) := fun hx => by
  have h0 := hq.1.2
  rcases hx with h | h <;> omega
theorem pin_end {Tb B : Nat} {w2 Z X wc : World} {ua ur c : Nat} {ao : Option Addr} {ps : List Pr} (h : PIn (Gk Tb B Z.heap.size) X ao c ps) (hB : B ≤ w2.heap.size) (h1 : Kept Nil w2 Z) (h6 : Kept (fun q _ => q = ua ∨ q = ur) X wc) (h7 : w2.heap.size ≤ ua ∧ w2.heap.size ≤ ur ∧ (ua < Z.heap.size ∨ X.heap.size ≤ ua) ∧ (ur < Z.heap.size ∨ X.heap.size ≤ ur)) : PIn (Gk Tb B w2.heap.size) wc ao c ps :=
  ((h.mono (G' := fun q => Gk Tb B Z.heap.size q ∧ q < X.heap.size) (fun _ hq hg => ⟨hg, hq⟩)).far h6 (fun _ _ hq => gk_far hB h7 hq)).mono (fun _ _ hq => ⟨hq.1.1, hq.1.2.imp id (fun x => Nat.le_trans h1.size x)⟩)
theorem kin_end {Tb B : Nat} {w2 Z X wc : World} {ua ur c : Nat} {ao : Option Addr} {ks : List (List UInt8)} (h : KIn (Gk Tb B Z.heap.size) X ao c ks) (hB : B ≤ w2.heap.size) (h1 : Kept Nil w2 Z) (h6 : Kept (fun q _ => q = ua ∨ q = ur) X wc) (h7 : w2.heap.size ≤ ua ∧ w2.heap.size ≤ ur ∧ (ua < Z.heap.size ∨ X.heap.size ≤ ua) ∧ (ur < Z.heap.size ∨ X.heap.size ≤ ur)) : KIn (Gk Tb B w2.heap.size) wc ao c ks :=
  ((h.mono (G' := fun q => Gk Tb B Z.heap.size q ∧ q < X.heap.size) (fun _ hq hg => ⟨hg, hq⟩)).far h6 (fun _ _ hq => gk_far hB h7 hq)).mono (fun _ _ hq => ⟨hq.1.1, hq.1.2.imp id (fun x => Nat.le_trans h1.size x)⟩)
theorem sin_end {Tb B : Nat} {w2 Z X wc : World} {ua ur c : Nat} {ao : Option Addr} {es : List Se} (h : SIn (Gk Tb B Z.heap.size) X ao c es) (hB : B ≤ w2.heap.size) (h1 : Kept Nil w2 Z) (h6 : Kept (fun q _ => q = ua ∨ q = ur) X wc) (h7 : w2.heap.size ≤ ua ∧ w2.heap.size ≤ ur ∧ (ua < Z.heap.size ∨ X.heap.size ≤ ua) ∧ (ur < Z.heap.size ∨ X.heap.size ≤ ur)) : SIn (Gk Tb B w2.heap.size) wc ao c es :=
  ((h.mono (G' := fun q => Gk Tb B Z.heap.size q ∧ q < X.heap.size) (fun _ hq hg => ⟨hg, hq⟩)).far h6 (fun _ _ hq => gk_far hB h7 hq)).mono (fun _ _ hq => ⟨hq.1.1, hq.1.2.imp id (fun x => Nat.le_trans h1.size x)⟩)
theorem gk_rng {Tb B C q : Nat} {o : Obj} (h : Gk Tb B C q) : ¬ Rng B C q o := fun hx => by
  have h0 := h.2
  have h1 : B ≤ q := hx.1
  have h2 : q < C := hx.2
  omega
/-- Keys and values that fit, of sessions. -/
def SFit (S1 : List Ss) : Prop := ∀ s ∈ S1, s.ks.length ≤ 8796093022200 ∧ (∀ x ∈ s.ks, x.length ≤ maxLen) ∧ s.val.length ≤ maxLen
theorem KIn.fits {G : Nat → Prop} {w : World} {ao : Option Addr} {c : Nat} {ks : List (List UInt8)} (h : KIn G w ao c ks) : ∀ x ∈ ks, x.length ≤ maxLen := fun x hx => by
  obtain ⟨j, hj, rfl⟩ := List.getElem_of_mem hx
  obtain ⟨_, _, _, _, l⟩ := h.row j hj
  exact l
theorem SIn.sfit {G : Nat → Prop} {w : World} {ao : Option Addr} {c : Nat} {zs : List Se} {S1 : List Ss} (h : SIn G w ao c zs) (hm : zs.map Se.s = S1) : SFit S1 := fun s hs => by
  rw [← hm] at hs
  obtain ⟨e, he, rfl⟩ := List.mem_map.1 hs
  exact ⟨(h.keys e he).len, (h.keys e he).fits, h.val e he⟩
theorem u_rows {B c1 c2 : Nat} {X : World} {P1 : List Pr} {S1 : List Ss} {a1 a2 : Option Addr} {xs : List Se} (op : OwnP B X a1 c1 P1) (oe : OwnE B X a2 c2 xs) (ok : OwnKs B X xs) (same : xs.map Se.s = S1) (hf : Fit P1) (hs : SFit S1) : PairRow X.heap.size X a1 P1 ∧ SessRow X.heap.size X a2 S1 := by
  refine ⟨op.row hf, ?_⟩
  have h := SIn.own (G := fun _ => True) oe (fun _ _ => trivial) (fun e he => by
    have h1 := hs e.s (by rw [← same]; exact List.mem_map_of_mem he)
    exact KIn.own (ok e he) (fun _ _ => trivial) h1.2.1 h1.1) (fun e he => (hs e.s (by rw [← same]; exact List.mem_map_of_mem he)).2.2)
  have h2 := h.row.sess
  rw [same] at h2
  exact h2
/-- What session.Run told, when its result's keys are written over. -/
theorem UT.over {w1 X Y : World} {P1 : List Pr} {S1 : List Ss} {rks : List (List UInt8)} {a1 a2 ko : Option Addr} {c1 c2 kc : Nat} {xs : List Se} (h : UT w1 P1 S1 rks a1 a2 ko c1 c2 kc xs X) (hg : X.grownBy Y (Value.slice ko rks.length kc).ownBlock) : OwnP w1.heap.size Y a1 c1 P1 ∧ OwnE w1.heap.size Y a2 c2 xs ∧ OwnKs w1.heap.size Y xs := by
  have hk : ∀ (e : TypeId) (sz n : Nat) (v : Value) (l : List Value), e ≠ 9 → X.ownsRow w1.heap.size e sz v n l → Y.ownsRow w1.heap.size e sz v n l := fun e sz n v l hne ho => by
    refine ⟨ho.1, ho.2.imp id ?_⟩
    rintro ⟨g, cap, cur, hv, hb, hh, h3⟩
    refine ⟨g, cap, cur, hv, hb, ?_, h3⟩
    rw [hg.block g (lt_of_block hh) (fun e => own_neTyS h.or hh (fun x => hne x.symm) e.symm)]
    exact hh
  refine ⟨hk _ _ _ _ _ (by decide) h.op, hk _ _ _ _ _ (by decide) h.oe, fun e he => ?_⟩
  have ho := h.ok e he
  refine ⟨ho.1, ho.2.imp id ?_⟩
  rintro ⟨g, cap, cur, hv, hb, hh, h3⟩
  refine ⟨g, cap, cur, hv, hb, ?_, h3⟩
  rw [hg.block g (lt_of_block hh) (fun x => h.apart e he g (by rw [hv]; rfl) x.symm)]
  exact hh
theorem grown_other {X Y : World} {B n g : Nat} {e t : TypeId} {sz : Nat} {v : Value} {l : List Value} {cs : Array Value} (hg : X.grownBy Y v.ownBlock) (ho : X.ownsRow B e sz v n l) (hb : X.heap[g]? = some (.cells cs t (0, 0))) (hne : e ≠ t) : Y.heap[g]? = some (.cells cs t (0, 0)) := by
  rw [hg.block g (lt_of_block hb) (fun x => own_neTyS ho hb hne x.symm)]
  exact hb

end Go.Proofs.Ytblmmbghnkplkaa
