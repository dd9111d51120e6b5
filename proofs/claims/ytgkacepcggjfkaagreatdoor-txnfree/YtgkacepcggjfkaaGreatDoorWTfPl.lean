/-
  Joined: WTf1, WTf2.
-/
import Derived.Test.YtgkacepcggjfkaaGreatDoorWTyPl
/-
  Transactions, plainly: one more begins; what stands in the map is a word or a number; one that goes on alone.
-/
namespace Go.Proofs.YtgkacepcggjfkaaGreatDoor

/-- One more, which has not begun and of which the map says nothing. -/
theorem Inv.add {s : St} {T : Nat → Tx} {In : Nat → Prop} {d : Nat} {qs : List Pt} (h : Inv s T In) (hd : ¬ In d) (hn : s.n (tKey d) = 0) (hv : s.v (tKey d) = []) (ok : (newTx d qs).Ok) (hr : RiseT qs) :
    Inv s (upd T d (newTx d qs)) (fun b => In b ∨ b = d) := by
  have hin : ∀ b, In b → b ≠ d := fun b hb e => hd (e ▸ hb)
  refine ⟨fun b hb => ?_, fun b hb => ?_, fun k => ?_⟩
  · rcases hb with hb | rfl
    · exact h.pos b hb
    · exact ok.id0
  · by_cases e : b = d
    · subst e
      unfold TI
      rw [upd_same]
      refine ⟨rfl, ok, fun i j p q hp hq ek => ?_, fun _ => rfl, fun _ => ⟨hn, rfl⟩, fun e => absurd rfl e, ?_, fun e => absurd (show 8 ≤ (0 : Nat) from e) (by decide), fun e => absurd (hv.symm.trans e) (by decide), fun e => absurd (show (0 : Nat) = 6 from e) (by decide), Nat.zero_le _, fun e => absurd (show (0 : Nat) = 2 ∨ (0 : Nat) = 3 ∨ (0 : Nat) = 4 ∨ (0 : Nat) = 5 ∨ (0 : Nat) = 9 from e) (by decide), fun e => absurd (show (0 : Nat) = 2 from e) (by decide), fun e => absurd (show (0 : Nat) = 3 ∨ (0 : Nat) = 4 ∨ (0 : Nat) = 5 from e) (by decide), fun e => absurd (show (0 : Nat) = 4 from e) (by decide), fun e => absurd (show (0 : Nat) = 5 from e) (by decide), fun e => absurd (show (0 : Nat) = 9 from e) (by decide)⟩
      · replace hp : qs[i]? = some p := hp
        replace hq : qs[j]? = some q := hq
        obtain ⟨hi, rfl⟩ := List.getElem?_eq_some_iff.1 hp
        obtain ⟨hj, rfl⟩ := List.getElem?_eq_some_iff.1 hq
        rcases Nat.lt_trichotomy i j with hl | hl | hl
        · have := hr i j hl hj
          have ek' : qs[i].k = qs[j].k := ek
          rw [ek', less_irrefl] at this
          cases this
        · exact hl
        · have := hr j i hl hi
          have ek' : qs[i].k = qs[j].k := ek
          rw [ek', less_irrefl] at this
          cases this
      · rw [hv]
        show ([] : List UInt8) = wDon ↔ (1 : Nat) = 2
        decide
    · have hb' : In b := hb.resolve_right e
      have g := h.t b hb'
      unfold TI at g ⊢
      rw [upd_ne T _ e]
      refine { g with three := fun h3 => ?_ }
      obtain ⟨a1, a2, a3, a4⟩ := g.three h3
      rw [upd_ne T _ (hin _ a2)]
      exact ⟨a1, .inl a2, a3, a4⟩
  · rcases h.v k with h1 | ⟨h1, j, p, h2, h3, h4⟩
    · exact .inl h1
    · refine .inr ⟨.inl h1, j, p, ?_, ?_, h4⟩
      · rw [upd_ne T _ (hin _ h1)]; exact h2
      · rw [upd_ne T _ (hin _ h1)]; exact h3
/-! ### What stands in the map -/
def GoodV (x : List UInt8) : Prop := x = [] ∨ x = wOpen ∨ x = wDon ∨ x = wOff ∨ ∃ h : Hd, h.Ok ∧ x = h.txt
def St.Good (s : St) : Prop := ∀ k, GoodV (s.v k)
theorem numT_good {n b : Nat} {z : Int} (hn : n ≤ 999999999) (hb : b ≤ 999) (hz : b ≠ 0 → 0 ≤ z ∧ z ≤ 999999999) : GoodV (Tx.numT n b z) := by
  unfold GoodV
  refine .inr (.inr (.inr (.inr ?_)))
  by_cases e : b = 0
  · subst e
    exact ⟨⟨n, 0, 0⟩, ⟨hn, (show (0 : Nat) ≤ 999 by decide), (show (0 : Nat) ≤ 999999999 by decide), fun _ => rfl⟩, by unfold Tx.numT Hd.txt; rfl⟩
  · obtain ⟨z0, z1⟩ := hz e
    refine ⟨⟨n, b, z.toNat⟩, ⟨hn, hb, by show z.toNat ≤ _; omega, fun x => absurd x e⟩, ?_⟩
    unfold Tx.numT Hd.txt
    rw [if_neg e, if_neg e]
    have hi : Lib.itoa z = Lib.decDigits z.toNat := by
      have := itoa_nat z.toNat
      rw [Int.toNat_of_nonneg z0] at this
      exact this
    rw [hi]
theorem next_good {t : Tx} (h : t.Ok) (h9 : t.ph ≤ 9) (hr : ¬ t.reads) : GoodV t.next.1.v := by
  unfold Tx.reads at hr
  have hph : t.ph = 0 ∨ t.ph = 2 ∨ t.ph = 4 ∨ t.ph = 5 ∨ t.ph = 6 ∨ t.ph = 7 ∨ t.ph = 9 := by omega
  rcases hph with e | e | e | e | e | e | e
  · rw [show t.next.1.v = wOpen from by unfold Tx.next; rw [e]; rfl]; exact .inr (.inl rfl)
  · rw [show t.next.1.v = Tx.numT t.sn.n t.id t.thenZ from by unfold Tx.next; rw [e]; rfl]; exact numT_good h.sn.n h.id (fun _ => h.hold e)
  · rw [show t.next.1.v = wOff from by unfold Tx.next; rw [e]; rfl]; exact .inr (.inr (.inr (.inl rfl)))
  · rw [show t.next.1.v = Tx.numT (t.sn.settled t.hd) 0 0 from by unfold Tx.next; rw [e]; rfl]; exact numT_good (settled_most h.sn _) (by decide) (fun x => absurd rfl x)
  · rw [show t.next.1.v = wDon from by unfold Tx.next; rw [e]; rfl]; exact .inr (.inr (.inl rfl))
  · rw [show t.next.1.v = wOff from by unfold Tx.next; rw [e]; rfl]; exact .inr (.inr (.inr (.inl rfl)))
  · rw [show t.next.1.v = Tx.numT (t.sn.settled (decide (t.st = 2))) 0 0 from by unfold Tx.next; rw [e]; rfl]; exact numT_good (settled_most h.sn _) (by decide) (fun x => absurd rfl x)
theorem St.Good.go {s : St} {t : Tx} (hs : s.Good) (h : t.Ok) (h9 : t.ph ≤ 9) : (t.go s).1.Good := by
  unfold Tx.go
  split
  · exact hs
  · rename_i hr
    intro k
    show GoodV ((s.swap t.next.1.k t.next.1.v t.next.1.m).v k)
    unfold St.swap
    split
    · by_cases e : k = t.next.1.k
      · rw [e, (s.put_at _ _).1]
        exact next_good h h9 hr
      · rw [(s.put_off _ e).1]
        exact hs k
    · exact hs k
/-- A blank stands in a number's text around the holder alone. -/
theorem txt_sub {h : Hd} {k : Nat} (hs : (h.txt.drop k).take 4 = [32, 53, 48, 32]) : h.b = 50 := by
  unfold Hd.txt at hs
  have nb : ∀ n : Nat, ∀ c ∈ Lib.decDigits n, c ≠ 32 := digits_nb
  have h0 : ∀ (l : List UInt8) (j : Nat), (l.drop j).take 4 = [32, 53, 48, 32] → l[j]? = some 32 ∧ l[j + 1]? = some 53 ∧ l[j + 2]? = some 48 ∧ l[j + 3]? = some 32 := fun l j e => by
    have g : ∀ i, i < 4 → l[j + i]? = ([32, 53, 48, 32] : List UInt8)[i]? := fun i hi => by
      rw [← e, List.getElem?_take, if_pos hi, List.getElem?_drop]
    exact ⟨g 0 (by decide), g 1 (by decide), g 2 (by decide), g 3 (by decide)⟩
  obtain ⟨g0, g1, g2, g3⟩ := h0 _ _ hs
  split at g0
  · exact absurd rfl (nb h.n 32 (List.mem_of_getElem? g0))
  · rename_i hb0
    rw [if_neg hb0] at g1 g2 g3
    obtain ⟨A, hA⟩ : ∃ A, A = Lib.decDigits h.n := ⟨_, rfl⟩
    obtain ⟨B, hB⟩ : ∃ B, B = Lib.decDigits h.b := ⟨_, rfl⟩
    obtain ⟨C, hC⟩ : ∃ C, C = Lib.decDigits h.t := ⟨_, rfl⟩
    rw [← hA, ← hB, ← hC] at g0 g1 g2 g3
    have hAn : ∀ c ∈ A, c ≠ 32 := by rw [hA]; exact nb _
    have hBn : ∀ c ∈ B, c ≠ 32 := by rw [hB]; exact nb _
    have hCn : ∀ c ∈ C, c ≠ 32 := by rw [hC]; exact nb _
    have at' : ∀ j, (A ++ 32 :: (B ++ 32 :: C))[j]? = some 32 → j = A.length ∨ j = A.length + 1 + B.length := fun j e => by
      rcases Nat.lt_trichotomy j A.length with hl | hl | hl
      · rw [List.getElem?_append_left hl] at e
        exact absurd rfl (hAn 32 (List.mem_of_getElem? e))
      · exact .inl hl
      · rw [List.getElem?_append_right (by omega)] at e
        obtain ⟨i, hi⟩ : ∃ i, j - A.length = i + 1 := ⟨j - A.length - 1, by omega⟩
        rw [hi, List.getElem?_cons_succ] at e
        rcases Nat.lt_trichotomy i B.length with hl2 | hl2 | hl2
        · rw [List.getElem?_append_left hl2] at e
          exact absurd rfl (hBn 32 (List.mem_of_getElem? e))
        · exact .inr (by omega)
        · rw [List.getElem?_append_right (by omega)] at e
          obtain ⟨i2, hi2⟩ : ∃ i2, i - B.length = i2 + 1 := ⟨i - B.length - 1, by omega⟩
          rw [hi2, List.getElem?_cons_succ] at e
          exact absurd rfl (hCn 32 (List.mem_of_getElem? e))
    have p0 := at' k g0
    have p3 := at' (k + 3) g3
    have hk : k = A.length ∧ B.length = 2 := by omega
    obtain ⟨rfl, hl⟩ := hk
    rw [List.getElem?_append_right (by omega)] at g1 g2
    rw [show A.length + 1 - A.length = 0 + 1 from by omega, List.getElem?_cons_succ, List.getElem?_append_left (by omega)] at g1
    rw [show A.length + 2 - A.length = 1 + 1 from by omega, List.getElem?_cons_succ, List.getElem?_append_left (by omega)] at g2
    have hBe : B = [53, 48] := by
      match B, hl, g1, g2 with
      | [x, y], _, g1, g2 =>
        simp at g1 g2
        rw [g1, g2]
    have h50 : Lib.decDigits 50 = [53, 48] := (digits_of [53, 48] 50 (by rfl) (by simp) (by intro h; simp at h)).1
    exact digits_inj (by rw [← hB, hBe, h50])
theorem good_sub {x : List UInt8} {k : Nat} (hx : GoodV x) (hs : (x.drop k).take 4 = [32, 53, 48, 32]) : (hdOf x).b = 50 := by
  rcases hx with rfl | rfl | rfl | rfl | ⟨h, ho, rfl⟩
  · simp at hs
  · have : ∀ k, ¬ (wOpen.drop k).take 4 = [32, 53, 48, 32] := fun k e => by
      have := List.mem_of_mem_take (l := wOpen.drop k) (i := 4) (by rw [e]; exact List.mem_cons_self .. : (32 : UInt8) ∈ _)
      exact absurd (List.mem_of_mem_drop this) (by decide)
    exact absurd hs (this k)
  · have : ∀ k, ¬ (wDon.drop k).take 4 = [32, 53, 48, 32] := fun k e => by
      have := List.mem_of_mem_take (l := wDon.drop k) (i := 4) (by rw [e]; exact List.mem_cons_self .. : (32 : UInt8) ∈ _)
      exact absurd (List.mem_of_mem_drop this) (by decide)
    exact absurd hs (this k)
  · have : ∀ k, ¬ (wOff.drop k).take 4 = [32, 53, 48, 32] := fun k e => by
      have := List.mem_of_mem_take (l := wOff.drop k) (i := 4) (by rw [e]; exact List.mem_cons_self .. : (32 : UInt8) ∈ _)
      exact absurd (List.mem_of_mem_drop this) (by decide)
    exact absurd hs (this k)
  · rw [hdOf_txt ho]
    exact txt_sub hs
end Go.Proofs.YtgkacepcggjfkaaGreatDoor

/-
  Transactions, plainly: one that goes on alone ends, committed if it could be, and holds no key then.
-/
namespace Go.Proofs.YtgkacepcggjfkaaGreatDoor

structure Solo (s : St) (t : Tx) (d : Nat) (N0 : List UInt8 → Nat) : Prop where
  cur : t.minds → t.vr = s.n t.key
  four : t.ph = 4 → s.v (tKey t.sn.b) = wOpen
  rc : t.ph ≠ 0 → t.ph ≤ 7 → s.n (tKey d) = 1
  nums : t.ph ≤ 7 → ∀ k, s.num k = N0 k
  good : t.ph ≤ 6 → ∀ (j : Nat) (p : Pt), t.ps[j]? = some p → j < t.old.length → 0 ≤ (N0 p.k : Int) + p.a
  bad : t.ph = 7 → ∃ p ∈ t.ps, (N0 p.k : Int) + p.a < 0
  fin : 8 ≤ t.ph → (t.st = 2 ↔ ∀ p ∈ t.ps, 0 ≤ (N0 p.k : Int) + p.a)
  fin' : 8 ≤ t.ph → t.st = 2 ∨ t.st = 3
  free : 8 ≤ t.ph → ∀ (j : Nat) (p : Pt), t.ps[j]? = some p → (j < t.at' ∨ t.ph = 10) → (s.hAt p.k).b ≠ d
open Classical in
/-- How many commands are left at most. -/
noncomputable def muS (s : St) (t : Tx) : Nat :=
  if t.ph = 0 then 2 + 10 * t.ps.length
  else if t.ph = 1 then 8 * (t.ps.length - t.at' - 1) + (if (s.hAt t.part.k).b = 0 then 2 else if s.v (tKey (s.hAt t.part.k).b) = wOpen then 8 else 5) + 1 + 2 * t.ps.length
  else if t.ph = 2 then 8 * (t.ps.length - t.at' - 1) + 2 + 2 * t.ps.length
  else if t.ph = 3 then 8 * (t.ps.length - t.at' - 1) + (if s.v (tKey t.sn.b) = wOpen then 7 else 4) + 1 + 2 * t.ps.length
  else if t.ph = 4 then 8 * (t.ps.length - t.at' - 1) + 7 + 2 * t.ps.length
  else if t.ph = 5 then 8 * (t.ps.length - t.at' - 1) + 4 + 2 * t.ps.length
  else if t.ph = 6 ∨ t.ph = 7 then 1 + 2 * t.ps.length
  else if t.ph = 8 then 2 * (t.ps.length - t.at')
  else if t.ph = 9 then 2 * (t.ps.length - t.at') - 1
  else 0
theorem muS_look (s : St) (t : Tx) (h : t.ph = 1) : muS s t ≤ 8 * (t.ps.length - t.at' - 1) + 9 + 2 * t.ps.length := by
  unfold muS
  rw [if_neg (by omega), if_pos h]
  split
  · omega
  split <;> omega
theorem go_write {t : Tx} {s : St} {k x : List UInt8} {m : Int} (hr : ¬ t.reads) (hk : t.next = (swapC k x m, true)) (hn : s.n k = m) : t.go s = (s.put k x, t.ans [] 0 true) := by
  unfold Tx.go
  rw [if_neg hr, hk]
  show (s.swap k x m, t.ans [] 0 (decide (s.n k = m))) = _
  unfold St.swap
  rw [if_pos hn, decide_eq_true hn]
theorem hdOf_zero {n : Nat} (h : n ≤ 999999999) : hdOf (Tx.numT n 0 0) = ⟨n, 0, 0⟩ := hdOf_txt (h := ⟨n, 0, 0⟩) ⟨h, (show (0 : Nat) ≤ 999 by decide), (show (0 : Nat) ≤ 999999999 by decide), fun _ => rfl⟩
theorem settled_zero (n : Nat) (d : Bool) (t : Nat) : (Hd.mk n 0 t).settled d = n := by
  unfold Hd.settled
  rw [if_neg (by simp)]
theorem Solo.go {s : St} {T : Nat → Tx} {In : Nat → Prop} {d : Nat} {N0 : List UInt8 → Nat} (h : Inv s T In) (hd : In d) (h9 : (T d).ph ≤ 9) (hS : Solo s (T d) d N0) (hN : ∀ p ∈ (T d).ps, (N0 p.k : Int) + p.a ≤ 999999999) :
    Solo ((T d).go s).1 ((T d).go s).2 d N0 ∧ muS ((T d).go s).1 ((T d).go s).2 + 1 ≤ muS s (T d) := by
  have g := h.t d hd
  obtain ⟨t, ht⟩ : ∃ t, t = T d := ⟨_, rfl⟩
  have hmk := (h.go hd h9).2
  have gi := (h.go hd h9).1.t d hd
  unfold TI at g gi
  rw [upd_same] at gi
  rw [← ht] at g h9 hS hN hmk gi ⊢
  have hat := g.ok.at'
  have hq : t.part ∈ t.ps := List.mem_of_getElem? (Tx.part_at g.ok)
  have hpa : t.ps[t.at']? = some t.part := Tx.part_at g.ok
  have hps := (go_ps t s).1
  have hkey : t.key = kKey t.part.k := rfl
  have numsame : ((t.go s).2.st = 2 ↔ t.st = 2) ∨ t.ph = 6 → (t.go s).2.ph ≤ 7 → t.ph ≤ 7 → ∀ k, (t.go s).1.num k = N0 k := fun _ h7 h7' k => by
    rcases hmk with ⟨h1, _⟩ | ⟨_, e2, _⟩
    · rw [h1, hS.nums h7' k]
    · have := gi.run h7
      omega
  have hph : t.ph = 0 ∨ t.ph = 1 ∨ t.ph = 2 ∨ t.ph = 3 ∨ t.ph = 4 ∨ t.ph = 5 ∨ t.ph = 6 ∨ t.ph = 7 ∨ t.ph = 8 ∨ t.ph = 9 := by omega
  rcases hph with e | e | e | e | e | e | e | e | e | e
  · -- begins
    obtain ⟨hn, ho⟩ := g.r0 e
    have eg := go_write (t := t) (s := s) (k := tKey d) (x := wOpen) (m := 0) (by unfold Tx.reads; omega) (by unfold Tx.next; rw [if_pos e, g.id]) hn
    have ea : t.ans [] 0 true = { t with ph := 1 } := by unfold Tx.ans; rw [if_pos e]; rfl
    rw [ea] at eg
    have ha0 : t.at' = 0 := by rw [← g.ok.olds (by omega) (by omega), ho]; rfl
    rw [eg] at numsame ⊢
    refine ⟨⟨fun x => absurd x (by unfold Tx.minds; simp), fun x => (by cases x), fun _ _ => by rw [(s.put_at _ _).2, hn]; rfl, fun h7 => numsame (.inl Iff.rfl) h7 (by omega), fun _ j p _ hj => by rw [show ({ t with ph := 1 } : Tx).old = [] from ho] at hj; simp at hj, fun x => (by cases x), fun x => absurd (show 8 ≤ 1 from x) (by decide), fun x => absurd (show 8 ≤ 1 from x) (by decide), fun x => absurd (show 8 ≤ 1 from x) (by decide)⟩, ?_⟩
    have h1 : muS (s.put (tKey d) wOpen) { t with ph := 1 } ≤ 8 * (t.ps.length - t.at' - 1) + 9 + 2 * t.ps.length := muS_look _ _ rfl
    have h2 : muS s t = 2 + 10 * t.ps.length := by unfold muS; rw [if_pos e]
    have := g.ok.len
    show muS (s.put (tKey d) wOpen) { t with ph := 1 } + 1 ≤ muS s t
    omega
  · -- looks
    have hnm := h.not_mine (b := d) hd (by rw [← ht]; exact g.ok.olds (by omega) (by omega))
    rw [← ht] at hnm
    have eg : t.go s = (s, t.ans (s.v t.key) (s.n t.key) true) := by
      unfold Tx.go
      rw [if_pos (.inl e), show t.next.1.k = t.key from by unfold Tx.next; rw [e]; rfl]
    obtain ⟨hh, hhh⟩ : ∃ hh, hh = s.hAt t.part.k := ⟨_, rfl⟩
    have hv : hdOf (s.v t.key) = hh := hhh.symm
    rw [← hhh] at hnm
    have ea : t.ans (s.v t.key) (s.n t.key) true = ({ t with sn := hh, vr := s.n t.key } : Tx).looked' := by unfold Tx.ans; rw [if_neg (by omega), if_pos e, hv]
    rw [ea] at eg
    have hok : hh.Ok := by rw [← hv]; exact hdOf_ok _
    have mu1 : muS s t = 8 * (t.ps.length - t.at' - 1) + (if hh.b = 0 then 2 else if s.v (tKey hh.b) = wOpen then 8 else 5) + 1 + 2 * t.ps.length := by unfold muS; rw [if_neg (by omega), if_pos e, hhh]
    by_cases c0 : 0 < hh.b
    · have el : ({ t with sn := hh, vr := s.n t.key } : Tx).looked' = { t with sn := hh, vr := s.n t.key, ph := 3 } := by
        unfold Tx.looked'
        rw [if_neg (by show hh.b ≠ t.id; rw [g.id]; exact hnm), if_pos (by exact c0)]
      rw [el] at eg
      rw [eg] at numsame ⊢
      refine ⟨⟨fun _ => rfl, fun x => (by cases x), fun _ _ => hS.rc (by omega) (by omega), fun _ => hS.nums (by omega), fun _ => hS.good (by omega), fun x => (by cases x), fun x => absurd (show 8 ≤ 3 from x) (by decide), fun x => absurd (show 8 ≤ 3 from x) (by decide), fun x => absurd (show 8 ≤ 3 from x) (by decide)⟩, ?_⟩
      have mu3 : muS s { t with sn := hh, vr := s.n t.key, ph := 3 } = 8 * (t.ps.length - t.at' - 1) + (if s.v (tKey hh.b) = wOpen then 7 else 4) + 1 + 2 * t.ps.length := by unfold muS; rfl
      have hb1 : ¬ hh.b = 0 := by omega
      rw [if_neg hb1] at mu1
      rw [mu1, mu3]
      by_cases cw : s.v (tKey hh.b) = wOpen
      · rw [if_pos cw, if_pos cw]
        omega
      · rw [if_neg cw, if_neg cw]
        omega
    · have hb0 : hh.b = 0 := by omega
      have hnum : s.num t.part.k = hh.n := by
        unfold St.num
        rw [← hhh]
        unfold Hd.settled
        rw [if_neg (by simp [hb0])]
      have hN0 : N0 t.part.k = hh.n := by rw [← hS.nums (by omega), hnum]
      have hz : ({ t with sn := hh, vr := s.n t.key } : Tx).thenZ = (N0 t.part.k : Int) + t.part.a := by rw [hN0]; rfl
      have hz1 := hN t.part hq
      by_cases c1 : (N0 t.part.k : Int) + t.part.a < 0
      · have el : ({ t with sn := hh, vr := s.n t.key } : Tx).looked' = { t with sn := hh, vr := s.n t.key, ph := 7 } := by
          unfold Tx.looked'
          rw [if_neg (by show hh.b ≠ t.id; rw [g.id]; exact hnm), if_neg (by exact c0), if_pos (by rw [hz]; exact .inl c1)]
        rw [el] at eg
        rw [eg] at numsame ⊢
        refine ⟨⟨fun x => absurd x (by unfold Tx.minds; simp), fun x => (by cases x), fun _ _ => hS.rc (by omega) (by omega), fun _ => hS.nums (by omega), fun x => absurd (show 7 ≤ 6 from x) (by decide), fun _ => ⟨t.part, hq, c1⟩, fun x => absurd (show 8 ≤ 7 from x) (by decide), fun x => absurd (show 8 ≤ 7 from x) (by decide), fun x => absurd (show 8 ≤ 7 from x) (by decide)⟩, ?_⟩
        have mu7' : muS s { t with sn := hh, vr := s.n t.key, ph := 7 } = 1 + 2 * t.ps.length := by unfold muS; rfl
        rw [mu1, mu7', if_pos hb0]
        omega
      · have el : ({ t with sn := hh, vr := s.n t.key } : Tx).looked' = { t with sn := hh, vr := s.n t.key, ph := 2 } := by
          unfold Tx.looked'
          rw [if_neg (by show hh.b ≠ t.id; rw [g.id]; exact hnm), if_neg (by exact c0), if_neg (by rw [hz]; omega)]
        rw [el] at eg
        rw [eg] at numsame ⊢
        refine ⟨⟨fun _ => rfl, fun x => (by cases x), fun _ _ => hS.rc (by omega) (by omega), fun _ => hS.nums (by omega), fun _ => hS.good (by omega), fun x => (by cases x), fun x => absurd (show 8 ≤ 2 from x) (by decide), fun x => absurd (show 8 ≤ 2 from x) (by decide), fun x => absurd (show 8 ≤ 2 from x) (by decide)⟩, ?_⟩
        have mu2 : muS s { t with sn := hh, vr := s.n t.key, ph := 2 } = 8 * (t.ps.length - t.at' - 1) + 2 + 2 * t.ps.length := by unfold muS; rfl
        rw [mu1, mu2, if_pos hb0]
        omega
  · -- holds
    have hm : t.minds := .inl e
    have hcur := hS.cur hm
    have hsn := (g.seen hm).2 hcur.symm
    have hb0 := g.two e
    have eg := go_write (t := t) (s := s) (k := t.key) (x := Tx.numT t.sn.n t.id t.thenZ) (m := t.vr) (by unfold Tx.reads; omega) (by unfold Tx.next; rw [e]; rfl) hcur.symm
    have ea : t.ans [] 0 true = ({ t with ph := 1 } : Tx).note := by unfold Tx.ans; rw [e]; rfl
    rw [ea] at eg
    have hol := g.ok.olds (by omega) (by omega)
    have hN0 : (N0 t.part.k : Int) + t.part.a = t.thenZ := by
      rw [← hS.nums (by omega)]
      unfold St.num
      rw [hsn]
      unfold Hd.settled
      rw [if_neg (by simp [hb0])]
      rfl
    have hhold := g.ok.hold e
    have mu2 : muS s t = 8 * (t.ps.length - t.at' - 1) + 2 + 2 * t.ps.length := by unfold muS; rw [if_neg (by omega), if_neg (by omega), if_pos e]
    have hgood : ∀ (j : Nat) (p : Pt), t.ps[j]? = some p → j < t.old.length + 1 → 0 ≤ (N0 p.k : Int) + p.a := fun j p hp hj => by
      by_cases ej : j < t.old.length
      · exact hS.good (by omega) j p hp ej
      · have e2 : j = t.at' := by omega
        rw [e2, hpa] at hp
        cases hp
        rw [hN0]
        exact hhold.1
    have hrc : (s.put t.key (Tx.numT t.sn.n t.id t.thenZ)).n (tKey d) = 1 := by rw [hkey, (s.rec_key _ _ _).2]; exact hS.rc (by omega) (by omega)
    by_cases c : t.at' + 1 = t.ps.length
    · have en : ({ t with ph := 1 } : Tx).note = { t with old := t.old ++ [(t.sn.n : Int)], at' := 0, ph := 6 } := by
        unfold Tx.note Tx.further
        rw [if_pos (by exact c)]
      rw [en] at eg
      rw [eg] at numsame ⊢
      refine ⟨⟨fun x => absurd x (by unfold Tx.minds; simp), fun x => (by cases x), fun _ _ => hrc, fun h7 => numsame (.inl Iff.rfl) h7 (by omega), fun _ j p hp hj => hgood j p hp (by simpa using hj), fun x => (by cases x), fun x => absurd (show 8 ≤ 6 from x) (by decide), fun x => absurd (show 8 ≤ 6 from x) (by decide), fun x => absurd (show 8 ≤ 6 from x) (by decide)⟩, ?_⟩
      have mu6 : ∀ u, muS u { t with old := t.old ++ [(t.sn.n : Int)], at' := 0, ph := 6 } = 1 + 2 * t.ps.length := fun u => by unfold muS; rfl
      rw [mu2, mu6]
      omega
    · have en : ({ t with ph := 1 } : Tx).note = { t with old := t.old ++ [(t.sn.n : Int)], at' := t.at' + 1, ph := 1 } := by
        unfold Tx.note Tx.further
        rw [if_neg (by exact c)]
      rw [en] at eg
      rw [eg] at numsame ⊢
      refine ⟨⟨fun x => absurd x (by unfold Tx.minds; simp), fun x => (by cases x), fun _ _ => hrc, fun h7 => numsame (.inl Iff.rfl) h7 (by omega), fun _ j p hp hj => hgood j p hp (by simpa using hj), fun x => (by cases x), fun x => absurd (show 8 ≤ 1 from x) (by decide), fun x => absurd (show 8 ≤ 1 from x) (by decide), fun x => absurd (show 8 ≤ 1 from x) (by decide)⟩, ?_⟩
      have h1 : muS (s.put t.key (Tx.numT t.sn.n t.id t.thenZ)) { t with old := t.old ++ [(t.sn.n : Int)], at' := t.at' + 1, ph := 1 } ≤ 8 * (t.ps.length - (t.at' + 1) - 1) + 9 + 2 * t.ps.length := muS_look _ _ rfl
      show muS (s.put t.key (Tx.numT t.sn.n t.id t.thenZ)) { t with old := t.old ++ [(t.sn.n : Int)], at' := t.at' + 1, ph := 1 } + 1 ≤ muS s t
      rw [mu2]
      omega
  · -- asks
    have hm : t.minds := .inr (.inl e)
    have eg : t.go s = (s, t.ans (s.v (tKey t.sn.b)) (s.n (tKey t.sn.b)) true) := by
      unfold Tx.go
      rw [if_pos (.inr (.inl e)), show t.next.1.k = tKey t.sn.b from by unfold Tx.next; rw [e]; rfl]
    have ea : t.ans (s.v (tKey t.sn.b)) (s.n (tKey t.sn.b)) true = { t with hd := decide (s.v (tKey t.sn.b) = wDon), hv := s.n (tKey t.sn.b), ph := if s.v (tKey t.sn.b) = wOpen then 4 else 5 } := by unfold Tx.ans; rw [e]; rfl
    rw [ea] at eg
    have mu3 : muS s t = 8 * (t.ps.length - t.at' - 1) + (if s.v (tKey t.sn.b) = wOpen then 7 else 4) + 1 + 2 * t.ps.length := by unfold muS; rw [if_neg (by omega), if_neg (by omega), if_neg (by omega), if_pos e]
    by_cases c : s.v (tKey t.sn.b) = wOpen
    · rw [if_pos c] at eg mu3
      rw [eg] at numsame ⊢
      refine ⟨⟨fun _ => hS.cur hm, fun _ => c, fun _ _ => hS.rc (by omega) (by omega), fun _ => hS.nums (by omega), fun _ => hS.good (by omega), fun x => (by cases x), fun x => absurd (show 8 ≤ 4 from x) (by decide), fun x => absurd (show 8 ≤ 4 from x) (by decide), fun x => absurd (show 8 ≤ 4 from x) (by decide)⟩, ?_⟩
      have mu4 : muS s { t with hd := decide (s.v (tKey t.sn.b) = wDon), hv := s.n (tKey t.sn.b), ph := 4 } = 8 * (t.ps.length - t.at' - 1) + 7 + 2 * t.ps.length := by unfold muS; rfl
      rw [mu3, mu4]
      omega
    · rw [if_neg c] at eg mu3
      rw [eg] at numsame ⊢
      refine ⟨⟨fun _ => hS.cur hm, fun x => (by cases x), fun _ _ => hS.rc (by omega) (by omega), fun _ => hS.nums (by omega), fun _ => hS.good (by omega), fun x => (by cases x), fun x => absurd (show 8 ≤ 5 from x) (by decide), fun x => absurd (show 8 ≤ 5 from x) (by decide), fun x => absurd (show 8 ≤ 5 from x) (by decide)⟩, ?_⟩
      have mu5 : muS s { t with hd := decide (s.v (tKey t.sn.b) = wDon), hv := s.n (tKey t.sn.b), ph := 5 } = 8 * (t.ps.length - t.at' - 1) + 4 + 2 * t.ps.length := by unfold muS; rfl
      rw [mu3, mu5]
      omega
  · -- ends the holder's record
    have hm : t.minds := .inr (.inr (.inl e))
    have hsn := (g.seen hm).2 (hS.cur hm).symm
    obtain ⟨c1, c2, c3, _⟩ := g.three (.inr (.inl e))
    have hop := hS.four e
    have hn1 : s.n (tKey t.sn.b) = 1 := by
      have hc := h.t t.sn.b c2
      rcases hc.r1 c3 with x | ⟨_, x⟩
      · exact x.1
      · rw [hop] at x
        rcases x with x | x
        · exact absurd x (by decide)
        · exact absurd x (by decide)
    have h4 := g.four e
    have eg := go_write (t := t) (s := s) (k := tKey t.sn.b) (x := wOff) (m := 1) (by unfold Tx.reads; omega) (by unfold Tx.next; rw [e, h4]; rfl) hn1
    have ea : t.ans [] 0 true = { t with ph := 1 } := by unfold Tx.ans; rw [e]; rfl
    rw [ea] at eg
    have hdn : tKey d ≠ tKey t.sn.b := fun x => c1 (tKey_inj (h.le hd) (h.le c2) x).symm
    rw [eg] at numsame ⊢
    refine ⟨⟨fun x => absurd x (by unfold Tx.minds; simp), fun x => (by cases x), fun _ _ => by rw [(s.put_off wOff hdn).2]; exact hS.rc (by omega) (by omega), fun h7 => numsame (.inl Iff.rfl) h7 (by omega), fun _ => hS.good (by omega), fun x => (by cases x), fun x => absurd (show 8 ≤ 1 from x) (by decide), fun x => absurd (show 8 ≤ 1 from x) (by decide), fun x => absurd (show 8 ≤ 1 from x) (by decide)⟩, ?_⟩
    have mu4 : muS s t = 8 * (t.ps.length - t.at' - 1) + 7 + 2 * t.ps.length := by unfold muS; rw [if_neg (by omega), if_neg (by omega), if_neg (by omega), if_neg (by omega), if_pos e]
    have mu1 : muS (s.put (tKey t.sn.b) wOff) { t with ph := 1 } ≤ 8 * (t.ps.length - t.at' - 1) + 6 + 2 * t.ps.length := by
      unfold muS
      rw [if_neg (by simp), if_pos rfl]
      have hp1 : ({ t with ph := 1 } : Tx).part = t.part := rfl
      rw [hp1, s.hAt_rec, hsn, (s.put_at _ _).1]
      rw [if_neg (fun x : wOff = wOpen => absurd x (by decide))]
      show 8 * (t.ps.length - t.at' - 1) + _ + 1 + 2 * t.ps.length ≤ _
      split <;> omega
    show muS (s.put (tKey t.sn.b) wOff) { t with ph := 1 } + 1 ≤ muS s t
    rw [mu4]
    omega
  · -- frees
    have hm : t.minds := .inr (.inr (.inr (.inl e)))
    have hcur := hS.cur hm
    have eg := go_write (t := t) (s := s) (k := t.key) (x := Tx.numT (t.sn.settled t.hd) 0 0) (m := t.vr) (by unfold Tx.reads; omega) (by unfold Tx.next; rw [e]; rfl) hcur.symm
    have ea : t.ans [] 0 true = { t with ph := 1 } := by unfold Tx.ans; rw [e]; rfl
    rw [ea] at eg
    rw [eg] at numsame ⊢
    refine ⟨⟨fun x => absurd x (by unfold Tx.minds; simp), fun x => (by cases x), fun _ _ => by rw [hkey, (s.rec_key _ _ _).2]; exact hS.rc (by omega) (by omega), fun h7 => numsame (.inl Iff.rfl) h7 (by omega), fun _ => hS.good (by omega), fun x => (by cases x), fun x => absurd (show 8 ≤ 1 from x) (by decide), fun x => absurd (show 8 ≤ 1 from x) (by decide), fun x => absurd (show 8 ≤ 1 from x) (by decide)⟩, ?_⟩
    have mu5 : muS s t = 8 * (t.ps.length - t.at' - 1) + 4 + 2 * t.ps.length := by unfold muS; rw [if_neg (by omega), if_neg (by omega), if_neg (by omega), if_neg (by omega), if_neg (by omega), if_pos e]
    have mu1 : muS (s.put t.key (Tx.numT (t.sn.settled t.hd) 0 0)) { t with ph := 1 } = 8 * (t.ps.length - t.at' - 1) + 3 + 2 * t.ps.length := by
      unfold muS
      rw [if_neg (by simp), if_pos rfl]
      have hp1 : ({ t with ph := 1 } : Tx).part = t.part := rfl
      rw [hp1, hkey, s.hAt_key, hdOf_zero (settled_most g.ok.sn _), if_pos rfl]
    rw [mu5, mu1]
    omega
  · -- commits
    have hn1 := hS.rc (by omega) (by omega)
    have eg := go_write (t := t) (s := s) (k := tKey d) (x := wDon) (m := 1) (by unfold Tx.reads; omega) (by unfold Tx.next; rw [e, g.id]; rfl) hn1
    have ea : t.ans [] 0 true = { t with st := 2, at' := 0, ph := 8 } := by unfold Tx.ans; rw [e]; rfl
    rw [ea] at eg
    rw [eg] at numsame ⊢
    have hall : ∀ p ∈ t.ps, 0 ≤ (N0 p.k : Int) + p.a := fun p hp => by
      obtain ⟨j, hj, e2⟩ := List.getElem_of_mem hp
      exact hS.good (by omega) j p (by rw [← e2]; exact List.getElem?_eq_getElem hj) (by rw [g.six e]; exact hj)
    refine ⟨⟨fun x => absurd x (by unfold Tx.minds; simp), fun x => (by cases x), fun _ x => absurd (show 8 ≤ 7 from x) (by decide), fun x => absurd (show 8 ≤ 7 from x) (by decide), fun x => absurd (show 8 ≤ 6 from x) (by decide), fun x => (by cases x), fun _ => ⟨fun _ => hall, fun _ => rfl⟩, fun _ => .inl rfl, fun _ j p _ hj => by rcases hj with hj | hj; exact absurd hj (Nat.not_lt_zero _); cases hj⟩, ?_⟩
    have mu6 : muS s t = 1 + 2 * t.ps.length := by unfold muS; rw [if_neg (by omega), if_neg (by omega), if_neg (by omega), if_neg (by omega), if_neg (by omega), if_neg (by omega), if_pos (.inl e)]
    have mu8 : ∀ u, muS u { t with st := 2, at' := 0, ph := 8 } = 2 * (t.ps.length - 0) := fun u => by unfold muS; rfl
    rw [mu6, mu8]
    omega
  · -- aborts
    have hn1 := hS.rc (by omega) (by omega)
    have eg := go_write (t := t) (s := s) (k := tKey d) (x := wOff) (m := 1) (by unfold Tx.reads; omega) (by unfold Tx.next; rw [e, g.id]; rfl) hn1
    have ea : t.ans [] 0 true = { t with st := 3, at' := 0, ph := 8 } := by unfold Tx.ans; rw [e]; rfl
    rw [ea] at eg
    rw [eg] at numsame ⊢
    obtain ⟨p0, hp0, hb0⟩ := hS.bad e
    refine ⟨⟨fun x => absurd x (by unfold Tx.minds; simp), fun x => (by cases x), fun _ x => absurd (show 8 ≤ 7 from x) (by decide), fun x => absurd (show 8 ≤ 7 from x) (by decide), fun x => absurd (show 8 ≤ 6 from x) (by decide), fun x => (by cases x), fun _ => ⟨fun x => absurd (show (3 : Nat) = 2 from x) (by decide), fun x => by have := x p0 hp0; omega⟩, fun _ => .inr rfl, fun _ j p _ hj => by rcases hj with hj | hj; exact absurd hj (Nat.not_lt_zero _); cases hj⟩, ?_⟩
    have mu7' : muS s t = 1 + 2 * t.ps.length := by unfold muS; rw [if_neg (by omega), if_neg (by omega), if_neg (by omega), if_neg (by omega), if_neg (by omega), if_neg (by omega), if_pos (.inr e)]
    have mu8 : ∀ u, muS u { t with st := 3, at' := 0, ph := 8 } = 2 * (t.ps.length - 0) := fun u => by unfold muS; rfl
    rw [mu7', mu8]
    omega
  · -- clears
    have eg : t.go s = (s, t.ans (s.v t.key) (s.n t.key) true) := by
      unfold Tx.go
      rw [if_pos (.inr (.inr e)), show t.next.1.k = t.key from by unfold Tx.next; rw [e]; rfl]
    obtain ⟨hh, hhh⟩ : ∃ hh, hh = s.hAt t.part.k := ⟨_, rfl⟩
    have hv : hdOf (s.v t.key) = hh := hhh.symm
    have mu8 : muS s t = 2 * (t.ps.length - t.at') := by unfold muS; rw [if_neg (by omega), if_neg (by omega), if_neg (by omega), if_neg (by omega), if_neg (by omega), if_neg (by omega), if_neg (by omega), if_pos e]
    have ea : t.ans (s.v t.key) (s.n t.key) true = if hh.b = t.id then { t with sn := hh, vr := s.n t.key, ph := 9 } else ({ t with sn := hh, vr := s.n t.key } : Tx).further 8 10 := by unfold Tx.ans; rw [e]; rw [hv]; rfl
    rw [ea] at eg
    by_cases c : hh.b = t.id
    · rw [if_pos c] at eg
      rw [eg] at numsame ⊢
      refine ⟨⟨fun _ => rfl, fun x => (by cases x), fun _ x => absurd (show 9 ≤ 7 from x) (by decide), fun x => absurd (show 9 ≤ 7 from x) (by decide), fun x => absurd (show 9 ≤ 6 from x) (by decide), fun x => (by cases x), fun _ => hS.fin (by omega), fun _ => hS.fin' (by omega), fun _ j p hp hj => hS.free (by omega) j p hp (by rcases hj with hj | hj; exact .inl hj; cases hj)⟩, ?_⟩
      have mu9 : muS s { t with sn := hh, vr := s.n t.key, ph := 9 } = 2 * (t.ps.length - t.at') - 1 := by unfold muS; rfl
      rw [mu8, mu9]
      omega
    · rw [if_neg c] at eg
      have hne : (s.hAt t.part.k).b ≠ d := by rw [← hhh, ← g.id]; exact c
      by_cases c2 : t.at' + 1 = t.ps.length
      · have en : ({ t with sn := hh, vr := s.n t.key } : Tx).further 8 10 = { t with sn := hh, vr := s.n t.key, at' := 0, ph := 10 } := by unfold Tx.further; rw [if_pos (by exact c2)]
        rw [en] at eg
        rw [eg] at numsame ⊢
        refine ⟨⟨fun x => absurd x (by unfold Tx.minds; simp), fun x => (by cases x), fun _ x => absurd (show 10 ≤ 7 from x) (by decide), fun x => absurd (show 10 ≤ 7 from x) (by decide), fun x => absurd (show 10 ≤ 6 from x) (by decide), fun x => (by cases x), fun _ => hS.fin (by omega), fun _ => hS.fin' (by omega), fun _ j p hp _ => ?_⟩, ?_⟩
        · have hp' : t.ps[j]? = some p := hp
          obtain ⟨hj, _⟩ := List.getElem?_eq_some_iff.1 hp'
          by_cases ej : j < t.at'
          · exact hS.free (by omega) j p hp' (.inl ej)
          · have e2 : j = t.at' := by omega
            rw [e2, hpa] at hp'
            cases hp'
            exact hne
        · have mu10 : muS s { t with sn := hh, vr := s.n t.key, at' := 0, ph := 10 } = 0 := by unfold muS; rfl
          rw [mu8, mu10]
          omega
      · have en : ({ t with sn := hh, vr := s.n t.key } : Tx).further 8 10 = { t with sn := hh, vr := s.n t.key, at' := t.at' + 1, ph := 8 } := by unfold Tx.further; rw [if_neg (by exact c2)]
        rw [en] at eg
        rw [eg] at numsame ⊢
        refine ⟨⟨fun x => absurd x (by unfold Tx.minds; simp), fun x => (by cases x), fun _ x => absurd (show 8 ≤ 7 from x) (by decide), fun x => absurd (show 8 ≤ 7 from x) (by decide), fun x => absurd (show 8 ≤ 6 from x) (by decide), fun x => (by cases x), fun _ => hS.fin (by omega), fun _ => hS.fin' (by omega), fun _ j p hp hj => ?_⟩, ?_⟩
        · have hp' : t.ps[j]? = some p := hp
          have hj' : j < t.at' + 1 := by rcases hj with hj | hj; exact hj; cases hj
          by_cases ej : j < t.at'
          · exact hS.free (by omega) j p hp' (.inl ej)
          · have e2 : j = t.at' := by omega
            rw [e2, hpa] at hp'
            cases hp'
            exact hne
        · have mu8' : muS s { t with sn := hh, vr := s.n t.key, at' := t.at' + 1, ph := 8 } = 2 * (t.ps.length - (t.at' + 1)) := by unfold muS; rfl
          rw [mu8, mu8']
          omega
  · -- gives
    have hm : t.minds := .inr (.inr (.inr (.inr e)))
    have hcur := hS.cur hm
    have eg := go_write (t := t) (s := s) (k := t.key) (x := Tx.numT (t.sn.settled (decide (t.st = 2))) 0 0) (m := t.vr) (by unfold Tx.reads; omega) (by unfold Tx.next; rw [e]; rfl) hcur.symm
    have ea : t.ans [] 0 true = t.further 8 10 := by unfold Tx.ans; rw [e]; rfl
    rw [ea] at eg
    have mu9 : muS s t = 2 * (t.ps.length - t.at') - 1 := by unfold muS; rw [if_neg (by omega), if_neg (by omega), if_neg (by omega), if_neg (by omega), if_neg (by omega), if_neg (by omega), if_neg (by omega), if_neg (by omega), if_pos e]
    have hfr : ∀ (j : Nat) (p : Pt), t.ps[j]? = some p → j ≤ t.at' → ((s.put t.key (Tx.numT (t.sn.settled (decide (t.st = 2))) 0 0)).hAt p.k).b ≠ d := fun j p hp hj => by
      by_cases ek : p.k = t.part.k
      · rw [ek, hkey, s.hAt_key, hdOf_zero (settled_most g.ok.sn _)]
        have := g.ok.id0
        rw [g.id] at this
        show (0 : Nat) ≠ d
        omega
      · rw [hkey, s.hAt_off _ ek]
        refine hS.free (by omega) j p hp (.inl ?_)
        rcases Nat.lt_or_ge j t.at' with x | x
        · exact x
        · have e2 : j = t.at' := by omega
          rw [e2, hpa] at hp
          cases hp
          exact absurd rfl ek
    by_cases c2 : t.at' + 1 = t.ps.length
    · have en : t.further 8 10 = { t with at' := 0, ph := 10 } := by unfold Tx.further; rw [if_pos c2]
      rw [en] at eg
      rw [eg] at numsame ⊢
      refine ⟨⟨fun x => absurd x (by unfold Tx.minds; simp), fun x => (by cases x), fun _ x => absurd (show 10 ≤ 7 from x) (by decide), fun x => absurd (show 10 ≤ 7 from x) (by decide), fun x => absurd (show 10 ≤ 6 from x) (by decide), fun x => (by cases x), fun _ => hS.fin (by omega), fun _ => hS.fin' (by omega), fun _ j p hp _ => ?_⟩, ?_⟩
      · have hp' : t.ps[j]? = some p := hp
        obtain ⟨hj, _⟩ := List.getElem?_eq_some_iff.1 hp'
        exact hfr j p hp' (by omega)
      · have mu10 : ∀ u, muS u { t with at' := 0, ph := 10 } = 0 := fun u => by unfold muS; rfl
        rw [mu9, mu10]
        omega
    · have en : t.further 8 10 = { t with at' := t.at' + 1, ph := 8 } := by unfold Tx.further; rw [if_neg c2]
      rw [en] at eg
      rw [eg] at numsame ⊢
      refine ⟨⟨fun x => absurd x (by unfold Tx.minds; simp), fun x => (by cases x), fun _ x => absurd (show 8 ≤ 7 from x) (by decide), fun x => absurd (show 8 ≤ 7 from x) (by decide), fun x => absurd (show 8 ≤ 6 from x) (by decide), fun x => (by cases x), fun _ => hS.fin (by omega), fun _ => hS.fin' (by omega), fun _ j p hp hj => ?_⟩, ?_⟩
      · have hp' : t.ps[j]? = some p := hp
        have hj' : j < t.at' + 1 := by rcases hj with hj | hj; exact hj; cases hj
        exact hfr j p hp' (by omega)
      · have mu8' : ∀ u, muS u { t with at' := t.at' + 1, ph := 8 } = 2 * (t.ps.length - (t.at' + 1)) := fun u => by unfold muS; rfl
        rw [mu9, mu8']
        omega
end Go.Proofs.YtgkacepcggjfkaaGreatDoor
