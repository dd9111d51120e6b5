/-
  Joined: WTxQ, WTxU, WTxV, WTxW, WTy1, WTy2.
-/
import Derived.Test.YtgkacepcggjfkaaGreatDoorWTxPl
import Derived.Test.YtgkacepcggjfkaaGreatDoorWTxE
/-
  Transactions, plainly: the numbers of pairs, the commands, and the first moment.
-/
namespace Go.Proofs.YtgkacepcggjfkaaGreatDoor

theorem isCmd_get {k : List UInt8} (h : k.length ≤ 16) (h0 : k ≠ []) : isCmd 2 k [] 0 = true := by
  unfold isCmd isNum
  simp [h, h0]
theorem isCmd_swap {k x : List UInt8} {m : Int} (h : k.length ≤ 16) (h0 : k ≠ []) (hx : x.length ≤ 64) (hm : isNum m = true) : isCmd 4 k x m = true := by
  unfold isCmd
  simp [h, h0, hx, hm]
theorem kKey_len {k : List UInt8} (h : k.length ≤ 15) : (kKey k).length ≤ 16 ∧ kKey k ≠ [] := by
  unfold kKey
  exact ⟨by simp; omega, by simp⟩
theorem tKey_len {b : Nat} (h : b ≤ 999) : (tKey b).length ≤ 16 ∧ tKey b ≠ [] := by
  unfold tKey
  have := digits_len9 (n := b) (by omega)
  exact ⟨by simp; omega, by simp⟩
/-- The number that the pairs tell of a key. -/
theorem num_of {ps : List Pr} {k : List UInt8} (hok : pairsOk ps = true) (hk : k.length ≤ 15) : numOf ps k = (St.of ps).num k := by
  have h1 : tells ps (kKey k) = (St.of ps).v (kKey k) := get_tells hok (isCmd_get (kKey_len hk).1 (kKey_len hk).2)
  have h2 : ∀ b, b ≤ 999 → tells ps (tKey b) = (St.of ps).v (tKey b) := fun b hb => get_tells hok (isCmd_get (tKey_len hb).1 (tKey_len hb).2)
  unfold numOf
  rw [h1, h2 _ (hdOf_ok _).b]
  rfl
theorem num_nil (k : List UInt8) : (St.of []).num k = 0 := rfl
/-- The first moment: nothing stands there, and nobody has begun. -/
theorem Inv.first {T : Nat → Tx} {In : Nat → Prop} (h : ∀ b, In b → ∃ qs, T b = newTx b qs ∧ (newTx b qs).Ok ∧ RiseT qs) : Inv (St.of []) T In := by
  refine ⟨fun b hb => ?_, fun b hb => ?_, fun k => .inl rfl⟩
  · obtain ⟨qs, _, ok, _⟩ := h b hb
    exact ok.id0
  · obtain ⟨qs, e, ok, hr⟩ := h b hb
    unfold TI
    rw [e]
    refine ⟨rfl, ok, fun i j p q hp hq ek => ?_, fun _ => rfl, fun _ => ⟨rfl, rfl⟩, fun e => absurd rfl e, ?_, fun e => absurd (show 8 ≤ (0 : Nat) from e) (by decide), fun e => absurd (show ([] : List UInt8) = wOpen from e) (by decide), fun e => absurd (show (0 : Nat) = 6 from e) (by decide), Nat.zero_le _, fun e => absurd (show (0 : Nat) = 2 ∨ (0 : Nat) = 3 ∨ (0 : Nat) = 4 ∨ (0 : Nat) = 5 ∨ (0 : Nat) = 9 from e) (by decide), fun e => absurd (show (0 : Nat) = 2 from e) (by decide), fun e => absurd (show (0 : Nat) = 3 ∨ (0 : Nat) = 4 ∨ (0 : Nat) = 5 from e) (by decide), fun e => absurd (show (0 : Nat) = 4 from e) (by decide), fun e => absurd (show (0 : Nat) = 5 from e) (by decide), fun e => absurd (show (0 : Nat) = 9 from e) (by decide)⟩
    · replace hp : qs[i]? = some p := hp
      replace hq : qs[j]? = some q := hq
      obtain ⟨hi, rfl⟩ := List.getElem?_eq_some_iff.1 hp
      obtain ⟨hj, rfl⟩ := List.getElem?_eq_some_iff.1 hq
      rcases Nat.lt_trichotomy i j with hl | hl | hl
      · have := hr i j hl hj
        have ek' : qs[i].k = qs[j].k := ek
        rw [ek', less_irrefl] at this
        cases this
      · exact hl
      · have := hr j i hl hi
        have ek' : qs[i].k = qs[j].k := ek
        rw [ek', less_irrefl] at this
        cases this
    · show ([] : List UInt8) = wDon ↔ (1 : Nat) = 2
      decide
end Go.Proofs.YtgkacepcggjfkaaGreatDoor

/-
  Transactions, plainly: the command that a transaction tells is one that the map takes.
-/
namespace Go.Proofs.YtgkacepcggjfkaaGreatDoor

theorem further_vr (t : Tx) (p b : Nat) : (t.further p b).vr = t.vr := by
  unfold Tx.further
  split <;> rfl
theorem ans_vr (t : Tx) (x : List UInt8) (m : Int) (ok : Bool) : (t.ans x m ok).vr = t.vr ∨ (t.ans x m ok).vr = m := by
  unfold Tx.ans
  split
  · unfold Tx.begun
    split <;> exact .inl rfl
  split
  · unfold Tx.looked' Tx.note
    split
    · rw [further_vr]
      exact .inr rfl
    split
    · exact .inr rfl
    split <;> exact .inr rfl
  split
  · unfold Tx.took Tx.note
    split
    · rw [further_vr]
      exact .inl rfl
    · exact .inl rfl
  split
  · exact .inl rfl
  split
  · exact .inl rfl
  split
  · exact .inl rfl
  split
  · exact .inl rfl
  split
  · split
    · exact .inr rfl
    · rw [further_vr]
      exact .inr rfl
  split
  · rw [further_vr]
    exact .inl rfl
  · exact .inl rfl
theorem numT_len {n b : Nat} {z : Int} (hn : n ≤ 999999999) (hb : b ≤ 999) (hz : b ≠ 0 → 0 ≤ z ∧ z ≤ 999999999) : (Tx.numT n b z).length ≤ 64 := by
  unfold Tx.numT
  have h1 := digits_len9 hn
  split
  · omega
  · rename_i hb0
    obtain ⟨z0, z1⟩ := hz hb0
    have h2 := digits_len9 (n := b) (by omega)
    have h3 := digits_len9 (n := z.toNat) (by omega)
    have hi : Lib.itoa z = Lib.decDigits z.toNat := by
      have := itoa_nat z.toNat
      rw [Int.toNat_of_nonneg z0] at this
      exact this
    rw [hi]
    simp only [List.length_append, List.length_cons]
    omega
theorem Tx.key_len {t : Tx} (h : t.Ok) : t.key.length ≤ 16 ∧ t.key ≠ [] := kKey_len (h.keys _ (List.mem_of_getElem? (Tx.part_at h))).2.1
theorem next_cmd {t : Tx} (h : t.Ok) (h9 : t.ph ≤ 9) (hv : isNum t.vr = true) (h4 : t.ph = 4 → t.hv = 1) : isCmd t.next.1.kd t.next.1.k t.next.1.v t.next.1.m = true := by
  have hk := Tx.key_len h
  have ht := tKey_len h.id
  have hb := tKey_len h.sn.b
  have hph : t.ph = 0 ∨ t.ph = 1 ∨ t.ph = 2 ∨ t.ph = 3 ∨ t.ph = 4 ∨ t.ph = 5 ∨ t.ph = 6 ∨ t.ph = 7 ∨ t.ph = 8 ∨ t.ph = 9 := by omega
  rcases hph with e | e | e | e | e | e | e | e | e | e
  · have en : t.next = (swapC (tKey t.id) wOpen 0, true) := by unfold Tx.next; rw [e]; rfl
    rw [en]
    exact isCmd_swap ht.1 ht.2 (show wOpen.length ≤ 64 by decide) (show isNum 0 = true by decide)
  · have en : t.next = (getC t.key, true) := by unfold Tx.next; rw [e]; rfl
    rw [en]
    exact isCmd_get hk.1 hk.2
  · have en : t.next = (swapC t.key (Tx.numT t.sn.n t.id t.thenZ) t.vr, true) := by unfold Tx.next; rw [e]; rfl
    rw [en]
    exact isCmd_swap hk.1 hk.2 (numT_len h.sn.n h.id (fun _ => h.hold e)) hv
  · have en : t.next = (getC (tKey t.sn.b), true) := by unfold Tx.next; rw [e]; rfl
    rw [en]
    exact isCmd_get hb.1 hb.2
  · have en : t.next = (swapC (tKey t.sn.b) wOff 1, true) := by unfold Tx.next; rw [e, h4 e]; rfl
    rw [en]
    exact isCmd_swap hb.1 hb.2 (show wOff.length ≤ 64 by decide) (show isNum 1 = true by decide)
  · have en : t.next = (swapC t.key (Tx.numT (t.sn.settled t.hd) 0 0) t.vr, true) := by unfold Tx.next; rw [e]; rfl
    rw [en]
    exact isCmd_swap hk.1 hk.2 (numT_len (z := 0) (settled_most h.sn _) (by decide) (fun e => absurd rfl e)) hv
  · have en : t.next = (swapC (tKey t.id) wDon 1, true) := by unfold Tx.next; rw [e]; rfl
    rw [en]
    exact isCmd_swap ht.1 ht.2 (show wDon.length ≤ 64 by decide) (show isNum 1 = true by decide)
  · have en : t.next = (swapC (tKey t.id) wOff 1, true) := by unfold Tx.next; rw [e]; rfl
    rw [en]
    exact isCmd_swap ht.1 ht.2 (show wOff.length ≤ 64 by decide) (show isNum 1 = true by decide)
  · have en : t.next = (getC t.key, true) := by unfold Tx.next; rw [e]; rfl
    rw [en]
    exact isCmd_get hk.1 hk.2
  · have en : t.next = (swapC t.key (Tx.numT (t.sn.settled (decide (t.st = 2))) 0 0) t.vr, true) := by unfold Tx.next; rw [e]; rfl
    rw [en]
    exact isCmd_swap hk.1 hk.2 (numT_len (z := 0) (settled_most h.sn _) (by decide) (fun e => absurd rfl e)) hv
end Go.Proofs.YtgkacepcggjfkaaGreatDoor

/-
  Transactions, plainly: there is always room.
-/
namespace Go.Proofs.YtgkacepcggjfkaaGreatDoor

theorem few_of : ∀ {ks K : List (List UInt8)}, ks.Pairwise (· ≠ ·) → (∀ k ∈ ks, k ∈ K) → ks.length ≤ K.length
  | [], _, _, _ => Nat.zero_le _
  | k :: ks, K, hp, hs => by
    have hk : k ∈ K := hs k (List.mem_cons_self ..)
    have h1 : ∀ j ∈ ks, k ≠ j := fun j hj => List.rel_of_pairwise_cons hp hj
    have h2 := few_of (ks := ks) (K := K.erase k) (List.Pairwise.of_cons hp) (fun j hj => (List.mem_erase_of_ne (Ne.symm (h1 j hj))).2 (hs j (List.mem_cons_of_mem _ hj)))
    rw [List.length_erase_of_mem hk] at h2
    have := List.length_pos_of_mem hk
    simp only [List.length_cons]
    omega
/-- The keys are among K, and no version has passed c. -/
structure Room (ps : List Pr) (K : List (List UInt8)) (c : Nat) : Prop where
  ok : pairsOk ps = true
  ks : ∀ p ∈ ps, p.k ∈ K
  n : ∀ k, 0 ≤ spotN k ps ∧ spotN k ps ≤ c
theorem Room.few {ps : List Pr} {K : List (List UInt8)} {c : Nat} (h : Room ps K c) : ps.length ≤ K.length := by
  have hs : Srt ps := (pairs_ok h.ok).2.1
  have h1 : (ps.map Pr.k).Pairwise (· ≠ ·) := by
    rw [List.pairwise_map]
    refine hs.imp (fun {a b} hl e => ?_)
    rw [e, less_irrefl] at hl
    cases hl
  have := few_of h1 (K := K) (fun k hk => by
    obtain ⟨p, hp, rfl⟩ := List.mem_map.1 hk
    exact h.ks p hp)
  rw [List.length_map] at this
  exact this
theorem go_n (t : Tx) (s : St) (k : List UInt8) : s.n k ≤ (t.go s).1.n k ∧ (t.go s).1.n k ≤ s.n k + 1 := by
  unfold Tx.go
  split
  · exact ⟨Int.le_refl _, by show s.n k ≤ s.n k + 1; omega⟩
  · refine ⟨(s.swap_ext _ _ _ k).1, ?_⟩
    show (s.swap t.next.1.k t.next.1.v t.next.1.m).n k ≤ s.n k + 1
    unfold St.swap
    split
    · by_cases e : k = t.next.1.k
      · subst e
        rw [(s.put_at _ _).2]
        omega
      · rw [(s.put_off _ e).2]
        omega
    · omega
/-- A step over pairs, where there is room. -/
theorem Room.step {t : Tx} {ps : List Pr} {K : List (List UInt8)} {c : Nat} (h : Room ps K c) (hK : K.length < 32) (hc : c < 1099511627775) (ht : t.Ok) (h9 : t.ph ≤ 9) (hv : 0 ≤ t.vr ∧ t.vr ≤ c) (h4 : t.ph = 4 → t.hv = 1) (hk : t.next.1.k ∈ K) :
    St.of (apP t.next.1.kd t.next.1.k t.next.1.v t.next.1.m ps) = (t.go (St.of ps)).1
      ∧ t.answer (apR t.next.1.kd t.next.1.k t.next.1.v t.next.1.m ps) = (t.go (St.of ps)).2
      ∧ Room (apP t.next.1.kd t.next.1.k t.next.1.v t.next.1.m ps) K (c + 1) := by
  have hnum : isNum t.vr = true := by
    unfold isNum
    simp only [Bool.and_eq_true, decide_eq_true_eq]
    omega
  have hf := h.few
  obtain ⟨a1, a2, a3, a4⟩ := go_is (t := t) h9 h.ok (next_cmd ht h9 hnum h4) (.inl (by omega)) (by have := (h.n t.next.1.k).2; omega)
  refine ⟨a1, a2, a3, fun p hp => ?_, fun k => ?_⟩
  · rcases a4 p hp with e | ⟨q, hq, e⟩
    · rw [e]
      exact hk
    · rw [← e]
      exact h.ks q hq
  · have e : spotN k (apP t.next.1.kd t.next.1.k t.next.1.v t.next.1.m ps) = (t.go (St.of ps)).1.n k := by rw [← a1]; rfl
    rw [e]
    obtain ⟨b1, b2⟩ := go_n t (St.of ps) k
    have h0 : (St.of ps).n k = spotN k ps := rfl
    have := h.n k
    rw [h0] at b1 b2
    exact ⟨by omega, by omega⟩
end Go.Proofs.YtgkacepcggjfkaaGreatDoor

/-
  Transactions, plainly: what nobody else has nobody else touches.
-/
namespace Go.Proofs.YtgkacepcggjfkaaGreatDoor

theorem St.swap_off (s : St) {k j : List UInt8} (x : List UInt8) (m : Int) (h : j ≠ k) : (s.swap k x m).v j = s.v j ∧ (s.swap k x m).n j = s.n j := by
  unfold St.swap
  split
  · exact s.put_off x h
  · exact ⟨rfl, rfl⟩
/-- d has its keys for itself. -/
def Alone (T : Nat → Tx) (In : Nat → Prop) (d : Nat) : Prop := ∀ b, In b → b ≠ d → ∀ p ∈ (T d).ps, ∀ q ∈ (T b).ps, q.k ≠ p.k
theorem Inv.alone {s : St} {T : Nat → Tx} {In : Nat → Prop} {b d : Nat} (h : Inv s T In) (hb : In b) (hd : In d) (hn : b ≠ d) (ha : Alone T In d) (h9 : (T b).ph ≤ 9) :
    (((T b).go s).1.v (tKey d) = s.v (tKey d) ∧ ((T b).go s).1.n (tKey d) = s.n (tKey d)) ∧ ∀ p ∈ (T d).ps, ((T b).go s).1.v (kKey p.k) = s.v (kKey p.k) ∧ ((T b).go s).1.n (kKey p.k) = s.n (kKey p.k) := by
  have g := h.t b hb
  have hq : (T b).part ∈ (T b).ps := List.mem_of_getElem? (Tx.part_at g.ok)
  have hkey : ∀ p ∈ (T d).ps, kKey p.k ≠ (T b).key := fun p hp e => ha b hb hn p hp _ hq (kKey_inj e).symm
  have htk : ∀ c, In c → c ≠ d → tKey d ≠ tKey c := fun c hc hne e => hne (tKey_inj (h.le hd) (h.le hc) e).symm
  by_cases hr : (T b).reads
  · unfold Tx.go
    rw [if_pos hr]
    exact ⟨⟨rfl, rfl⟩, fun _ _ => ⟨rfl, rfl⟩⟩
  · have hk : ((T b).next.1.k = (T b).key) ∨ ∃ c, In c ∧ c ≠ d ∧ (T b).next.1.k = tKey c := by
      have hr' := hr
      unfold Tx.reads at hr'
      have hph : (T b).ph = 0 ∨ (T b).ph = 2 ∨ (T b).ph = 4 ∨ (T b).ph = 5 ∨ (T b).ph = 6 ∨ (T b).ph = 7 ∨ (T b).ph = 9 := by omega
      rcases hph with e | e | e | e | e | e | e
      · exact .inr ⟨b, hb, hn, by unfold Tx.next; rw [e, g.id]; rfl⟩
      · exact .inl (by unfold Tx.next; rw [e]; rfl)
      · obtain ⟨_, a2, _, p, a4, a5⟩ := g.three (.inr (.inl e))
        refine .inr ⟨(T b).sn.b, a2, fun ed => ?_, by unfold Tx.next; rw [e]; rfl⟩
        rw [ed] at a4
        exact ha b hb hn p a4 _ hq a5.symm
      · exact .inl (by unfold Tx.next; rw [e]; rfl)
      · exact .inr ⟨b, hb, hn, by unfold Tx.next; rw [e, g.id]; rfl⟩
      · exact .inr ⟨b, hb, hn, by unfold Tx.next; rw [e, g.id]; rfl⟩
      · exact .inl (by unfold Tx.next; rw [e]; rfl)
    unfold Tx.go
    rw [if_neg hr]
    rcases hk with e | ⟨c, hc, hcd, e⟩
    · rw [e]
      exact ⟨s.swap_off _ _ (Ne.symm (kt_ne _ _)), fun p hp => s.swap_off _ _ (hkey p hp)⟩
    · rw [e]
      exact ⟨s.swap_off _ _ (htk c hc hcd), fun p _ => s.swap_off _ _ (kt_ne _ _)⟩
end Go.Proofs.YtgkacepcggjfkaaGreatDoor

/-
  Transactions, plainly: a run of some over pairs; one that has its key for itself.
-/
namespace Go.Proofs.YtgkacepcggjfkaaGreatDoor

/-- Some transactions and their map, behind c steps. -/
structure Run (In : Nat → Prop) (K : List (List UInt8)) (ps : List Pr) (T : Nat → Tx) (c : Nat) : Prop where
  inv : Inv (St.of ps) T In
  room : Room ps K c
  vr : ∀ b, In b → 0 ≤ (T b).vr ∧ (T b).vr ≤ c
  tk : ∀ b, In b → tKey b ∈ K
  kk : ∀ b, In b → ∀ p ∈ (T b).ps, kKey p.k ∈ K
theorem Run.key {In : Nat → Prop} {K : List (List UInt8)} {ps : List Pr} {T : Nat → Tx} {c b : Nat} (h : Run In K ps T c) (hb : In b) (h9 : (T b).ph ≤ 9) : (T b).next.1.k ∈ K := by
  have g := h.inv.t b hb
  have hq : (T b).part ∈ (T b).ps := List.mem_of_getElem? (Tx.part_at g.ok)
  have hk : (T b).key ∈ K := h.kk b hb _ hq
  have ht : tKey (T b).id ∈ K := by rw [g.id]; exact h.tk b hb
  have hph : (T b).ph = 0 ∨ (T b).ph = 1 ∨ (T b).ph = 2 ∨ (T b).ph = 3 ∨ (T b).ph = 4 ∨ (T b).ph = 5 ∨ (T b).ph = 6 ∨ (T b).ph = 7 ∨ (T b).ph = 8 ∨ (T b).ph = 9 := by omega
  rcases hph with e | e | e | e | e | e | e | e | e | e
  · rw [show (T b).next.1.k = tKey (T b).id from by unfold Tx.next; rw [e]; rfl]; exact ht
  · rw [show (T b).next.1.k = (T b).key from by unfold Tx.next; rw [e]; rfl]; exact hk
  · rw [show (T b).next.1.k = (T b).key from by unfold Tx.next; rw [e]; rfl]; exact hk
  · rw [show (T b).next.1.k = tKey (T b).sn.b from by unfold Tx.next; rw [e]; rfl]; exact h.tk _ (g.three (.inl e)).2.1
  · rw [show (T b).next.1.k = tKey (T b).sn.b from by unfold Tx.next; rw [e]; rfl]; exact h.tk _ (g.three (.inr (.inl e))).2.1
  · rw [show (T b).next.1.k = (T b).key from by unfold Tx.next; rw [e]; rfl]; exact hk
  · rw [show (T b).next.1.k = tKey (T b).id from by unfold Tx.next; rw [e]; rfl]; exact ht
  · rw [show (T b).next.1.k = tKey (T b).id from by unfold Tx.next; rw [e]; rfl]; exact ht
  · rw [show (T b).next.1.k = (T b).key from by unfold Tx.next; rw [e]; rfl]; exact hk
  · rw [show (T b).next.1.k = (T b).key from by unfold Tx.next; rw [e]; rfl]; exact hk
theorem go_vr (t : Tx) (s : St) {c : Nat} (h : 0 ≤ t.vr ∧ t.vr ≤ c) (hs : ∀ k, 0 ≤ s.n k ∧ s.n k ≤ c) : 0 ≤ (t.go s).2.vr ∧ (t.go s).2.vr ≤ c := by
  unfold Tx.go
  split
  · rcases ans_vr t (s.v t.next.1.k) (s.n t.next.1.k) true with e | e
    · show 0 ≤ (t.ans _ _ _).vr ∧ (t.ans _ _ _).vr ≤ c
      rw [e]; exact h
    · show 0 ≤ (t.ans _ _ _).vr ∧ (t.ans _ _ _).vr ≤ c
      rw [e]; exact hs _
  · rcases ans_vr t [] 0 (decide (s.n t.next.1.k = t.next.1.m)) with e | e
    · show 0 ≤ (t.ans _ _ _).vr ∧ (t.ans _ _ _).vr ≤ c
      rw [e]; exact h
    · show 0 ≤ (t.ans _ _ _).vr ∧ (t.ans _ _ _).vr ≤ c
      rw [e]; omega
theorem further_parts (t : Tx) (p b : Nat) : (t.further p b).ps = t.ps ∧ (t.further p b).id = t.id := by
  unfold Tx.further
  split <;> exact ⟨rfl, rfl⟩
theorem ans_ps (t : Tx) (x : List UInt8) (m : Int) (ok : Bool) : (t.ans x m ok).ps = t.ps ∧ (t.ans x m ok).id = t.id := by
  unfold Tx.ans
  split
  · unfold Tx.begun
    split <;> exact ⟨rfl, rfl⟩
  split
  · unfold Tx.looked' Tx.note
    split
    · exact further_parts _ _ _
    split
    · exact ⟨rfl, rfl⟩
    split <;> exact ⟨rfl, rfl⟩
  split
  · unfold Tx.took Tx.note
    split
    · exact further_parts _ _ _
    · exact ⟨rfl, rfl⟩
  split
  · exact ⟨rfl, rfl⟩
  split
  · exact ⟨rfl, rfl⟩
  split
  · exact ⟨rfl, rfl⟩
  split
  · exact ⟨rfl, rfl⟩
  split
  · split
    · exact ⟨rfl, rfl⟩
    · exact further_parts _ _ _
  split
  · exact further_parts _ _ _
  · exact ⟨rfl, rfl⟩
theorem go_ps (t : Tx) (s : St) : (t.go s).2.ps = t.ps ∧ (t.go s).2.id = t.id := by
  unfold Tx.go
  split
  · exact ans_ps _ _ _ _
  · exact ans_ps _ _ _ _
/-- The pairs behind a step, and the one that stepped. -/
def Tx.psOf (t : Tx) (ps : List Pr) : List Pr := apP t.next.1.kd t.next.1.k t.next.1.v t.next.1.m ps
def Tx.rOf (t : Tx) (ps : List Pr) : Rr := apR t.next.1.kd t.next.1.k t.next.1.v t.next.1.m ps
theorem Run.step {In : Nat → Prop} {K : List (List UInt8)} {ps : List Pr} {T : Nat → Tx} {c b : Nat} (h : Run In K ps T c) (hK : K.length < 32) (hc : c < 1099511627775) (hb : In b) (h9 : (T b).ph ≤ 9) :
    Run In K ((T b).psOf ps) (upd T b ((T b).answer ((T b).rOf ps))) (c + 1) ∧ Makes (St.of ps) (St.of ((T b).psOf ps)) (T b) ((T b).answer ((T b).rOf ps))
      ∧ St.of ((T b).psOf ps) = ((T b).go (St.of ps)).1 ∧ (T b).answer ((T b).rOf ps) = ((T b).go (St.of ps)).2 := by
  have g := h.inv.t b hb
  obtain ⟨a1, a2, a3⟩ := h.room.step (t := T b) hK hc g.ok h9 (h.vr b hb) g.four (h.key hb h9)
  obtain ⟨i1, i2⟩ := h.inv.go hb h9
  have e1 : St.of ((T b).psOf ps) = ((T b).go (St.of ps)).1 := a1
  have e2 : (T b).answer ((T b).rOf ps) = ((T b).go (St.of ps)).2 := a2
  refine ⟨⟨?_, a3, fun d hd => ?_, h.tk, fun d hd => ?_⟩, ?_, e1, e2⟩
  · rw [e1, e2]; exact i1
  · by_cases ed : d = b
    · subst ed
      rw [upd_same, e2]
      have := go_vr (T d) (St.of ps) (h.vr d hd) (fun k => h.room.n k)
      exact ⟨this.1, by have := this.2; omega⟩
    · rw [upd_ne T _ ed]
      have := h.vr d hd
      exact ⟨this.1, by omega⟩
  · by_cases ed : d = b
    · subst ed
      rw [upd_same, e2, (go_ps _ _).1]
      exact h.kk d hd
    · rw [upd_ne T _ ed]
      exact h.kk d hd
  · rw [e1, e2]; exact i2
theorem next_is (t : Tx) (h : t.ph ≤ 10) : t.next.2 = decide (t.ph ≤ 9) := by
  have hph : t.ph = 0 ∨ t.ph = 1 ∨ t.ph = 2 ∨ t.ph = 3 ∨ t.ph = 4 ∨ t.ph = 5 ∨ t.ph = 6 ∨ t.ph = 7 ∨ t.ph = 8 ∨ t.ph = 9 ∨ t.ph = 10 := by omega
  unfold Tx.next
  rcases hph with e | e | e | e | e | e | e | e | e | e | e <;> rw [e] <;> rfl

/-! ### One that has its key for itself -/
def zK : List UInt8 := [122]
structure J7 (s : St) (t : Tx) : Prop where
  ps : t.ps = [⟨zK, 5⟩]
  ph : t.ph = 0 ∨ t.ph = 1 ∨ t.ph = 2 ∨ t.ph = 6 ∨ 8 ≤ t.ph
  early : t.ph ≤ 2 → s.n (kKey zK) = 0 ∧ s.v (kKey zK) = []
  opn : t.ph = 1 ∨ t.ph = 2 ∨ t.ph = 6 → s.n (tKey 7) = 1
  two : t.ph = 2 → t.sn = Hd.no ∧ t.vr = 0
  st : 8 ≤ t.ph ↔ t.st = 2
  num : (s.num zK : Int) = if t.st = 2 then 5 else 0
def mu7 (p : Nat) : Nat := if p = 0 then 4 else if p = 1 then 3 else if p = 2 then 2 else if p = 6 then 1 else 0
theorem J7.num_go {s : St} {T : Nat → Tx} {In : Nat → Prop} {b : Nat} (hi : Inv s T In) (hb : In b) (h9 : (T b).ph ≤ 9) (hn : b ≠ 7) (h : J7 s (T 7)) (ha : Alone T In 7) : ((T b).go s).1.num zK = s.num zK := by
  rcases (hi.go hb h9).2 with ⟨h1, _⟩ | ⟨_, _, _, _, _, h1⟩
  · exact h1 _
  · exact h1 _ (fun q hq => ha b hb hn ⟨zK, 5⟩ (by rw [h.ps]; exact List.mem_cons_self ..) q hq)
theorem J7.other {s : St} {T : Nat → Tx} {In : Nat → Prop} {b : Nat} (hi : Inv s T In) (hb : In b) (hd : In 7) (h9 : (T b).ph ≤ 9) (hn : b ≠ 7) (h : J7 s (T 7)) (ha : Alone T In 7) : J7 ((T b).go s).1 (T 7) := by
  obtain ⟨a1, a2⟩ := hi.alone hb hd hn ha h9
  have a3 := a2 ⟨zK, 5⟩ (by rw [h.ps]; exact List.mem_cons_self ..)
  exact ⟨h.ps, h.ph, fun e => by rw [a3.1, a3.2]; exact h.early e, fun e => by rw [a1.2]; exact h.opn e, h.two, h.st, by rw [J7.num_go hi hb h9 hn h ha]; exact h.num⟩
theorem J7.part {s : St} {t : Tx} (h : J7 s t) (ok : t.Ok) : t.at' = 0 ∧ t.part = ⟨zK, 5⟩ ∧ t.key = kKey zK := by
  have h1 := ok.at'
  rw [h.ps] at h1
  have h0 : t.at' = 0 := by simp at h1; exact h1
  have hp : t.part = ⟨zK, 5⟩ := by unfold Tx.part; rw [h0, h.ps]; rfl
  exact ⟨h0, hp, by unfold Tx.key; rw [hp]⟩
theorem J7.own {s : St} {T : Nat → Tx} {In : Nat → Prop} (hi : Inv s T In) (hd : In 7) (h9 : (T 7).ph ≤ 9) (h : J7 s (T 7)) : J7 ((T 7).go s).1 ((T 7).go s).2 ∧ mu7 ((T 7).go s).2.ph ≤ mu7 (T 7).ph - 1 := by
  have g := hi.t 7 hd
  obtain ⟨p1, p2, p3⟩ := h.part g.ok
  have hmk := (hi.go hd h9).2
  have gi := ((hi.go hd h9).1.t 7 hd)
  have hps := (go_ps (T 7) s).1
  have hst1 : (T 7).ph ≤ 7 → (T 7).st = 1 := g.run
  have num : ∀ (hs : 8 ≤ ((T 7).go s).2.ph ↔ ((T 7).go s).2.st = 2), (((T 7).go s).1.num zK : Int) = if ((T 7).go s).2.st = 2 then 5 else 0 := fun _ => by
    rcases hmk with ⟨h1, h2⟩ | ⟨e1, e2, _, _, h1, _⟩
    · rw [h1, h.num]
      by_cases e : (T 7).st = 2
      · rw [if_pos e, if_pos (h2.2 e)]
      · rw [if_neg e, if_neg (fun e2 => e (h2.1 e2))]
    · rw [if_pos e2]
      have := (h1 0 ⟨zK, 5⟩ (by rw [h.ps]; rfl)).2
      have hn := h.num
      rw [if_neg (by rw [e1]; decide)] at hn
      rw [hn] at this
      simpa using this
  have fin : ∀ u v, ((T 7).go s).1 = u → ((T 7).go s).2 = v → (v.ph = 0 ∨ v.ph = 1 ∨ v.ph = 2 ∨ v.ph = 6 ∨ 8 ≤ v.ph) → (v.ph ≤ 2 → u.n (kKey zK) = 0 ∧ u.v (kKey zK) = []) → (v.ph = 1 ∨ v.ph = 2 ∨ v.ph = 6 → u.n (tKey 7) = 1) → (v.ph = 2 → v.sn = Hd.no ∧ v.vr = 0) → (8 ≤ v.ph ↔ v.st = 2) → mu7 v.ph ≤ mu7 (T 7).ph - 1 → J7 ((T 7).go s).1 ((T 7).go s).2 ∧ mu7 ((T 7).go s).2.ph ≤ mu7 (T 7).ph - 1 := by
    rintro u v eu ev h1 h2 h3 h4 h5 h6
    subst eu ev
    exact ⟨⟨by rw [hps]; exact h.ps, h1, h2, h3, h4, h5, num h5⟩, h6⟩
  have ktz : kKey zK ≠ tKey 7 := kt_ne _ _
  rcases h.ph with e | e | e | e | e
  · -- begin
    have hn : s.n (tKey 7) = 0 := (g.r0 e).1
    have hnx : (T 7).next = (swapC (tKey 7) wOpen 0, true) := by unfold Tx.next; rw [if_pos e, g.id]
    have hr : ¬ (T 7).reads := by unfold Tx.reads; omega
    have eg : (T 7).go s = (s.put (tKey 7) wOpen, (T 7).ans [] 0 true) := by
      unfold Tx.go
      rw [if_neg hr, hnx]
      show (s.swap (tKey 7) wOpen 0, (T 7).ans [] 0 (decide (s.n (tKey 7) = 0))) = _
      unfold St.swap
      rw [if_pos hn, decide_eq_true hn]
    have ea : (T 7).ans [] 0 true = { T 7 with ph := 1 } := by unfold Tx.ans; rw [if_pos e]; rfl
    refine fin _ _ (congrArg Prod.fst eg) ((congrArg Prod.snd eg).trans ea) (.inr (.inl rfl)) (fun _ => ?_) (fun _ => ?_) (fun e => by cases e) ⟨fun e => absurd (show 8 ≤ 1 from e) (by decide), fun e2 => ?_⟩ (by show mu7 1 ≤ _; rw [e]; decide)
    · rw [(s.put_off wOpen ktz).1, (s.put_off wOpen ktz).2]
      exact h.early (by omega)
    · rw [(s.put_at _ _).2, hn]
      rfl
    · have e3 : (T 7).st = 2 := e2
      rw [hst1 (by omega)] at e3
      cases e3
  · -- looks
    have hr : (T 7).reads := .inl e
    have hnx : (T 7).next.1.k = kKey zK := by unfold Tx.next; rw [e]; exact p3
    obtain ⟨y1, y2⟩ := h.early (by omega)
    have eg : (T 7).go s = (s, (T 7).ans [] 0 true) := by
      unfold Tx.go
      rw [if_pos hr, hnx, y1, y2]
    have ea : (T 7).ans [] 0 true = { T 7 with sn := Hd.no, vr := 0, ph := 2 } := by
      unfold Tx.ans
      rw [if_neg (by omega), if_pos e]
      unfold Tx.looked'
      have e0 : hdOf [] = Hd.no := rfl
      rw [if_neg (by show (hdOf []).b ≠ (T 7).id; rw [g.id, e0]; decide), if_neg (by show ¬ 0 < (hdOf []).b; rw [e0]; decide), if_neg (by
        show ¬ (Tx.thenZ { T 7 with sn := hdOf [], vr := 0 } < 0 ∨ 999999999 < Tx.thenZ { T 7 with sn := hdOf [], vr := 0 })
        have : Tx.thenZ { T 7 with sn := hdOf [], vr := 0 } = 5 := by
          unfold Tx.thenZ
          show ((hdOf []).n : Int) + (T 7).part.a = 5
          rw [p2, e0]
          rfl
        rw [this]
        decide)]
      rw [e0]
    refine fin _ _ (congrArg Prod.fst eg) ((congrArg Prod.snd eg).trans ea) (.inr (.inr (.inl rfl))) (fun _ => ⟨y1, y2⟩) (fun _ => h.opn (.inl e)) (fun _ => ⟨rfl, rfl⟩) ⟨fun e => absurd (show 8 ≤ 2 from e) (by decide), fun e2 => ?_⟩ (by show mu7 2 ≤ _; rw [e]; decide)
    have e3 : (T 7).st = 2 := e2
    rw [hst1 (by omega)] at e3
    cases e3
  · -- holds
    obtain ⟨t1, t2⟩ := h.two e
    obtain ⟨y1, y2⟩ := h.early (by omega)
    have hr : ¬ (T 7).reads := by unfold Tx.reads; omega
    obtain ⟨x, hnx⟩ : ∃ x, (T 7).next = (swapC (kKey zK) x 0, true) := ⟨_, by unfold Tx.next; rw [e, p3, t2]; rfl⟩
    have eg : (T 7).go s = (s.put (kKey zK) x, (T 7).ans [] 0 true) := by
      unfold Tx.go
      rw [if_neg hr, hnx]
      show (s.swap (kKey zK) x 0, (T 7).ans [] 0 (decide (s.n (kKey zK) = 0))) = _
      unfold St.swap
      rw [if_pos y1, decide_eq_true y1]
    have ea : ((T 7).ans [] 0 true).ph = 6 ∧ ((T 7).ans [] 0 true).st = (T 7).st := by
      have e5 : (T 7).ans [] 0 true = Tx.note { T 7 with ph := 1 } := by unfold Tx.ans; rw [e]; rfl
      rw [e5]
      unfold Tx.note Tx.further
      have hif : (T 7).at' + 1 = (T 7).ps.length := by rw [p1, h.ps]; rfl
      rw [if_pos hif]
      exact ⟨rfl, rfl⟩
    refine fin _ _ (congrArg Prod.fst eg) (congrArg Prod.snd eg) (.inr (.inr (.inr (.inl ea.1)))) (fun e2 => ?_) (fun _ => ?_) (fun e2 => ?_) ⟨fun e2 => ?_, fun e2 => ?_⟩ (by rw [ea.1, e]; decide)
    · rw [show ((T 7).ans [] 0 true, ()).1.ph = 6 from ea.1] at e2; omega
    · rw [(s.put_off x (Ne.symm ktz)).2]
      exact h.opn (.inr (.inl e))
    · have e3 : ((T 7).ans [] 0 true).ph = 2 := e2
      rw [ea.1] at e3; cases e3
    · have e3 : 8 ≤ ((T 7).ans [] 0 true).ph := e2
      rw [ea.1] at e3; omega
    · have e3 : ((T 7).ans [] 0 true).st = 2 := e2
      rw [ea.2, hst1 (by omega)] at e3; cases e3
  · -- commits
    have hn : s.n (tKey 7) = 1 := h.opn (.inr (.inr e))
    have hnx : (T 7).next = (swapC (tKey 7) wDon 1, true) := by unfold Tx.next; rw [e, g.id]; rfl
    have hr : ¬ (T 7).reads := by unfold Tx.reads; omega
    have eg : (T 7).go s = (s.put (tKey 7) wDon, (T 7).ans [] 0 true) := by
      unfold Tx.go
      rw [if_neg hr, hnx]
      show (s.swap (tKey 7) wDon 1, (T 7).ans [] 0 (decide (s.n (tKey 7) = 1))) = _
      unfold St.swap
      rw [if_pos hn, decide_eq_true hn]
    have ea : (T 7).ans [] 0 true = (T 7).settle true := by unfold Tx.ans; rw [e]; rfl
    refine fin _ _ (congrArg Prod.fst eg) ((congrArg Prod.snd eg).trans ea) (.inr (.inr (.inr (.inr (Nat.le_refl 8))))) (fun e2 => absurd (show 8 ≤ 2 from e2) (by decide)) (fun e2 => absurd (show (8 : Nat) = 1 ∨ (8 : Nat) = 2 ∨ (8 : Nat) = 6 from e2) (by decide)) (fun e2 => absurd (show (8 : Nat) = 2 from e2) (by decide)) ⟨fun _ => rfl, fun _ => Nat.le_refl 8⟩ (by show mu7 8 ≤ _; exact Nat.zero_le _)
  · -- clears, gives
    have hv : 8 ≤ ((T 7).go s).2.ph ∧ ((T 7).go s).2.st = (T 7).st := by
      have fu : ∀ t : Tx, 8 ≤ (t.further 8 10).ph ∧ (t.further 8 10).st = t.st := fun t => by
        unfold Tx.further
        split
        · exact ⟨show 8 ≤ 10 by decide, rfl⟩
        · exact ⟨Nat.le_refl 8, rfl⟩
      have an : ∀ x m ok, 8 ≤ ((T 7).ans x m ok).ph ∧ ((T 7).ans x m ok).st = (T 7).st := fun x m ok => by
        unfold Tx.ans
        have h89 : (T 7).ph = 8 ∨ (T 7).ph = 9 := by omega
        rcases h89 with e | e
        · rw [if_neg (by omega), if_neg (by omega), if_neg (by omega), if_neg (by omega), if_neg (by omega), if_neg (by omega), if_neg (by omega), if_pos e]
          split
          · exact ⟨show 8 ≤ 9 by decide, rfl⟩
          · exact fu _
        · rw [if_neg (by omega), if_neg (by omega), if_neg (by omega), if_neg (by omega), if_neg (by omega), if_neg (by omega), if_neg (by omega), if_neg (by omega), if_pos e]
          exact fu _
      unfold Tx.go
      split
      · exact an _ _ _
      · exact an _ _ _
    refine fin _ _ rfl rfl (.inr (.inr (.inr (.inr hv.1)))) (fun e2 => by omega) (fun e2 => by omega) (fun e2 => by omega) ⟨fun _ => by rw [hv.2]; exact h.st.1 e, fun _ => hv.1⟩ ?_
    have : mu7 ((T 7).go s).2.ph = 0 := by
      unfold mu7
      rw [if_neg (by omega), if_neg (by omega), if_neg (by omega), if_neg (by omega)]
    omega
theorem J7.first {qs : List Pt} (h : qs = [⟨zK, 5⟩]) : J7 (St.of []) (newTx 7 qs) :=
  ⟨h, .inl rfl, fun _ => ⟨rfl, rfl⟩, fun e => absurd (show (0 : Nat) = 1 ∨ (0 : Nat) = 2 ∨ (0 : Nat) = 6 from e) (by decide), fun e => absurd (show (0 : Nat) = 2 from e) (by decide), ⟨fun e => absurd (show 8 ≤ (0 : Nat) from e) (by decide), fun e => absurd (show (1 : Nat) = 2 from e) (by decide)⟩, rfl⟩
end Go.Proofs.YtgkacepcggjfkaaGreatDoor

/-
  Transactions, plainly: what the law keeps of the numbers.
-/
namespace Go.Proofs.YtgkacepcggjfkaaGreatDoor

def keys4 : List (List UInt8) := [[97], [98], [99], [122]]
def numsL (s : St) : List Int := keys4.map fun k => (s.num k : Int)
def mixL (s u : St) (ps : List Pt) (n : Nat) : List Int := keys4.map fun k => if k ∈ (ps.take n).map Pt.k then (u.num k : Int) else (s.num k : Int)
theorem mix_len (s u : St) (ps : List Pt) (n : Nat) : (mixL s u ps n).length = 4 := rfl
theorem nums_len (s : St) : (numsL s).length = 4 := rfl
theorem mix_zero (s u : St) (ps : List Pt) : mixL s u ps 0 = numsL s := by
  unfold mixL numsL
  simp
theorem mix_full {s u : St} {ps : List Pt} (h : ∀ k, (∀ p ∈ ps, p.k ≠ k) → u.num k = s.num k) : mixL s u ps ps.length = numsL u := by
  unfold mixL numsL
  rw [List.take_length]
  refine List.map_congr_left fun k _ => ?_
  split
  · rfl
  · rename_i hn
    rw [h k (fun p hp e => hn (List.mem_map.2 ⟨p, hp, e⟩))]
theorem mix_at {s u : St} {ps : List Pt} {n a : Nat} (hinj : ∀ (i j : Nat) (p q : Pt), ps[i]? = some p → ps[j]? = some q → p.k = q.k → i = j) (hn : n < ps.length) (ha : keys4[a]? = some ps[n].k) : (mixL s u ps n)[a]? = some (s.num ps[n].k : Int) := by
  unfold mixL
  rw [List.getElem?_map, ha]
  simp only [Option.map_some]
  rw [if_neg]
  intro hm
  obtain ⟨p, hp, e⟩ := List.mem_map.1 hm
  obtain ⟨i, hi, rfl⟩ := List.getElem_of_mem hp
  rw [List.length_take] at hi
  rw [List.getElem_take] at e
  have := hinj i n ps[i] ps[n] (List.getElem?_eq_getElem (by omega)) (List.getElem?_eq_getElem hn) e
  omega
theorem keys4_inj {i j : Nat} (hi : i < 4) (hj : j < 4) (e : keys4[i]? = keys4[j]?) : i = j := by
  rcases (show i = 0 ∨ i = 1 ∨ i = 2 ∨ i = 3 by omega) with rfl | rfl | rfl | rfl <;> rcases (show j = 0 ∨ j = 1 ∨ j = 2 ∨ j = 3 by omega) with rfl | rfl | rfl | rfl <;> first | rfl | exact absurd e (by decide)
theorem mix_next {s u : St} {ps : List Pt} {n a : Nat} (hn : n < ps.length) (ha : keys4[a]? = some ps[n].k) (hu : (u.num ps[n].k : Int) = s.num ps[n].k + ps[n].a) :
    (mixL s u ps n).set a ((s.num ps[n].k : Int) + ps[n].a) = mixL s u ps (n + 1) := by
  have ha4 : a < 4 := by
    obtain ⟨h, _⟩ := List.getElem?_eq_some_iff.1 ha
    exact h
  apply List.ext_getElem?
  intro i
  rw [List.getElem?_set]
  by_cases e : a = i
  · subst e
    rw [if_pos rfl, mix_len, if_pos ha4]
    unfold mixL
    rw [List.getElem?_map, ha]
    simp only [Option.map_some]
    rw [if_pos (by rw [List.mem_map]; exact ⟨ps[n], (by rw [List.take_add_one, List.getElem?_eq_getElem hn, List.mem_append]; exact Or.inr (List.mem_cons_self ..)), rfl⟩), hu]
  · rw [if_neg e]
    unfold mixL
    rw [List.getElem?_map, List.getElem?_map]
    cases hk : keys4[i]? with
    | none => rfl
    | some k =>
      simp only [Option.map_some]
      have hne : ps[n].k ≠ k := fun e2 => by
        have hi4 : i < 4 := by
          obtain ⟨h, _⟩ := List.getElem?_eq_some_iff.1 hk
          exact h
        exact e (keys4_inj ha4 hi4 (by rw [ha, hk, e2]))
      have hiff : k ∈ (ps.take (n + 1)).map Pt.k ↔ k ∈ (ps.take n).map Pt.k := by
        rw [List.take_add_one, List.map_append, List.mem_append, List.getElem?_eq_getElem hn]
        simp only [Option.toList_some, List.map_cons, List.map_nil, List.mem_singleton]
        exact ⟨fun h => h.resolve_right (fun e2 => hne e2.symm), .inl⟩
      by_cases hm : k ∈ (ps.take n).map Pt.k
      · rw [if_pos hm, if_pos (hiff.2 hm)]
      · rw [if_neg hm, if_neg (fun x => hm (hiff.1 x))]
theorem nums_nil : numsL (St.of []) = [0, 0, 0, 0] := rfl
theorem nums_most {s : St} (i : Nat) (z : Int) (h : (numsL s)[i]? = some z) : 0 ≤ z ∧ z ≤ 999999999 := by
  unfold numsL at h
  rw [List.getElem?_map] at h
  cases hk : keys4[i]? with
  | none => rw [hk] at h; simp at h
  | some k =>
    rw [hk] at h
    simp only [Option.map_some, Option.some.injEq] at h
    have : s.num k ≤ 999999999 := settled_most (hdOf_ok _) _
    omega
theorem mix_most {s u : St} {ps : List Pt} {n : Nat} (i : Nat) (z : Int) (h : (mixL s u ps n)[i]? = some z) : 0 ≤ z ∧ z ≤ 999999999 := by
  unfold mixL at h
  rw [List.getElem?_map] at h
  cases hk : keys4[i]? with
  | none => rw [hk] at h; simp at h
  | some k =>
    rw [hk] at h
    simp only [Option.map_some, Option.some.injEq] at h
    have h1 : s.num k ≤ 999999999 := settled_most (hdOf_ok _) _
    have h2 : u.num k ≤ 999999999 := settled_most (hdOf_ok _) _
    split at h <;> omega
end Go.Proofs.YtgkacepcggjfkaaGreatDoor
