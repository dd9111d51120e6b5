/-
  Joined: WShI.
-/
import Derived.Test.YtpfgnhockfofhaaM14
/-
  Shards, plainly: what is always so of hosts and of what is on its way.
-/
namespace Go.Proofs.Ytpfgnhockfofhaa
open Go.RowKit

theorem there_get {key : List UInt8} {ps : List Pr} (h : isThere key ps = true) : ∃ hl : lowP key ps < ps.length, ps[lowP key ps].k = key := by
  have hl := thereI h
  unfold isThere at h
  rw [List.getElem?_eq_getElem hl] at h
  exact ⟨hl, by simpa using h⟩
theorem not_there {key : List UInt8} {ps : List Pr} (hs : Srt ps) (h : isThere key ps = false) : ∀ x ∈ ps, x.k ≠ key := fun x hx e => by
  obtain ⟨j, hj, rfl⟩ := List.getElem_of_mem hx
  have h0 : lowP key ps = j := lowP_eq hs (by omega) (fun q hq hqj => by have := List.pairwise_iff_getElem.1 hs q j hq hj hqj; rwa [e] at this) (fun q hq hjq => by
    by_cases e2 : q = j
    · subst e2; rw [e]; exact less_irrefl _
    · have := List.pairwise_iff_getElem.1 hs j q hj hq (by omega)
      rw [e] at this
      exact less_asymD this)
  unfold isThere at h
  rw [h0, List.getElem?_eq_getElem hj] at h
  simp [e] at h
theorem setI_mem {x y : Pr} {ps : List Pr} (h : y ∈ setI x ps) : y = x ∨ y ∈ ps := by
  unfold setI at h
  split at h
  · rcases List.mem_or_eq_of_mem_set h with h | h
    · exact .inr h
    · exact .inl h
  · unfold insI at h
    rcases List.mem_append.1 h with h | h
    · exact .inr (List.mem_of_mem_take h)
    · rcases List.mem_cons.1 h with h | h
      · exact .inl h
      · exact .inr (List.mem_of_mem_drop h)
theorem take_low {key : List UInt8} {ps : List Pr} {x : Pr} (h : x ∈ ps.take (lowP key ps)) : lessB x.k key = true := by
  obtain ⟨j, hj, rfl⟩ := List.getElem_of_mem h
  rw [List.length_take] at hj
  rw [List.getElem_take]
  exact lowP_lt (by omega) (by omega)
theorem drop_low {key : List UInt8} {ps : List Pr} (hs : Srt ps) {x : Pr} (h : x ∈ ps.drop (lowP key ps)) : lessB x.k key = false := by
  obtain ⟨j, hj, rfl⟩ := List.getElem_of_mem h
  rw [List.length_drop] at hj
  rw [List.getElem_drop]
  exact lowP_ge hs (by omega) (by omega)
theorem setI_srt {x : Pr} {ps : List Pr} (hs : Srt ps) : Srt (setI x ps) := by
  unfold setI
  split
  · rename_i h
    obtain ⟨hl, hk⟩ := there_get h
    refine List.pairwise_iff_getElem.2 (fun i j hi hj hij => ?_)
    rw [List.length_set] at hi hj
    have hp := List.pairwise_iff_getElem.1 hs i j hi hj hij
    rw [List.getElem_set, List.getElem_set]
    split
    · rename_i e
      subst e
      rw [hk] at hp
      rw [if_neg (by omega)]
      exact hp
    · split
      · rename_i e
        subst e
        rw [hk] at hp
        exact hp
      · exact hp
  · rename_i h
    have hnt := not_there hs (by simpa using h)
    unfold insI
    refine List.pairwise_append.2 ⟨hs.sublist (List.take_sublist _ _), List.pairwise_cons.2 ⟨fun y hy => ?_, hs.sublist (List.drop_sublist _ _)⟩, fun a ha b hb => ?_⟩
    · have h1 := drop_low hs hy
      have h2 := hnt y (List.mem_of_mem_drop hy)
      exact less_total h1 h2
    · rcases List.mem_cons.1 hb with rfl | hb
      · exact take_low ha
      · exact less_le_trans (take_low ha) (drop_low hs hb)
theorem setIs_mem {y : Pr} : ∀ {l ps : List Pr}, y ∈ setIs l ps → y ∈ l ∨ y ∈ ps
  | [], _, h => .inr h
  | x :: t, ps, h => by
    rcases setIs_mem (l := t) (ps := setI x ps) h with h | h
    · exact .inl (List.mem_cons_of_mem _ h)
    · rcases setI_mem h with rfl | h
      · exact .inl (List.mem_cons_self ..)
      · exact .inr h
theorem setIs_srt : ∀ {l ps : List Pr}, Srt ps → Srt (setIs l ps)
  | [], _, h => h
  | _ :: t, _, h => setIs_srt (l := t) (setI_srt h)
theorem delI_sub (i j : Nat) (h : i ≤ j) (ps : List Pr) : (delI i j ps).Sublist ps := by
  unfold delI
  have := List.take_append_drop i ps
  conv => rhs; rw [← this]
  refine List.Sublist.append (List.Sublist.refl _) ?_
  rw [show j = i + (j - i) by omega, ← List.drop_drop]
  exact List.drop_sublist _ _
theorem end_le (up : List UInt8) (ps : List Pr) : endP up ps ≤ ps.length := by
  unfold endP
  split
  · exact Nat.le_refl _
  · exact lowP_le _ _
theorem first_end {fr up : List UInt8} {ps : List Pr} (hs : Srt ps) (h : someR fr up = true) : lowP fr ps ≤ endP up ps := by
  unfold endP
  split
  · exact lowP_le _ _
  · rename_i hu
    have hl := some_less h hu
    have h1 := lowP_le fr ps
    by_cases hc : lowP fr ps ≤ lowP up ps
    · exact hc
    · have h2 := lowP_lt (key := fr) (ps := ps) (j := lowP up ps) (by omega) (by omega)
      have h3 := lowP_ge (key := up) hs (j := lowP up ps) (by omega) (Nat.le_refl _)
      rw [less_trans h2 hl] at h3
      cases h3
theorem mid_mem {fr up : List UInt8} {ps : List Pr} {x : Pr} (h : x ∈ midP fr up ps) : x ∈ ps := List.mem_of_mem_drop (List.mem_of_mem_take h)
theorem mid_srt {fr up : List UInt8} {ps : List Pr} (h : Srt ps) : Srt (midP fr up ps) := h.sublist ((List.take_sublist _ _).trans (List.drop_sublist _ _))
theorem mid_in {fr up : List UInt8} {ps : List Pr} (hs : Srt ps) {x : Pr} (h : x ∈ midP fr up ps) : inR x.k fr up = true := by
  have h1 := drop_low hs (List.mem_of_mem_take h)
  unfold inR
  rw [h1]
  simp only [Bool.not_false, Bool.true_and, Bool.or_eq_true]
  by_cases hu : up = []
  · exact .inl (by rw [hu]; rfl)
  · right
    unfold midP endP at h
    rw [if_neg hu] at h
    obtain ⟨j, hj, rfl⟩ := List.getElem_of_mem h
    rw [List.length_take, List.length_drop] at hj
    rw [List.getElem_take, List.getElem_drop]
    exact lowP_lt (by omega) (by omega)
theorem GoodB.up {K K' : List (List UInt8)} (hK : ∀ k ∈ K, k ∈ K') {b : List UInt8} (h : GoodB K b) : GoodB K' b := by
  obtain ⟨fr, up, l, h1, h2, h3, hsm, h4, h5⟩ := h
  exact ⟨fr, up, l, h1, h2, h3, hsm, h4, fun x hx => ⟨⟨hK _ (h5 x hx).1.1, (h5 x hx).1.2⟩, (h5 x hx).2⟩⟩

/-- What is so of a host. -/
structure OkH (K : List (List UInt8)) (M : Nat) (h : Hd) : Prop where
  srt : Srt h.it
  its : ∀ x ∈ h.it, itOk K x
  kv : validB h.kb = true
  kl : h.kb.length ≤ 1 + 2 * M
  nu : ∀ k, k < 10 → (h.os k).ak + (h.os k).wt.length ≤ M ∧ (h.os k).wt.length ≤ 16 ∧ (h.os k).cm ≤ M
  wt : ∀ k, k < 10 → ∀ b ∈ (h.os k).wt, GoodB K b
/-- What is so of a packet on its way. -/
structure OkP (K : List (List UInt8)) (M n : Nat) (p : Pk) : Prop where
  fr : 1 ≤ p.fr ∧ p.fr ≤ n
  ds : 1 ≤ p.ds ∧ p.ds ≤ n
  nu : 1 ≤ p.nu ∧ p.nu ≤ M
  bd : p.ak = false → GoodB K p.bd
theorem OkH.up {K K' : List (List UInt8)} {M M' : Nat} {h : Hd} (x : OkH K M h) (hK : ∀ k ∈ K, k ∈ K') (hM : M ≤ M') : OkH K' M' h :=
  ⟨x.srt, fun y hy => ⟨hK _ (x.its y hy).1, (x.its y hy).2⟩, x.kv, by have := x.kl; omega, fun k hk => by obtain ⟨a, b, c⟩ := x.nu k hk; exact ⟨by omega, b, by omega⟩, fun k hk b hb => (x.wt k hk b hb).up hK⟩
theorem OkP.up {K K' : List (List UInt8)} {M M' n : Nat} {p : Pk} (x : OkP K M n p) (hK : ∀ k ∈ K, k ∈ K') (hM : M ≤ M') : OkP K' M' n p :=
  ⟨x.fr, x.ds, ⟨x.nu.1, by have := x.nu.2; omega⟩, fun h => (x.bd h).up hK⟩
theorem OkH.len {K : List (List UInt8)} {M : Nat} {h : Hd} (x : OkH K M h) : h.it.length ≤ K.length := srt_len x.srt x.its
/-- Which others a host has sent something to: hosts alone, and not itself. -/
def Tos (n : Nat) (id : Int) (h : Hd) : Prop := ∀ k, k < 10 → (h.os k).wt ≠ [] → 1 ≤ k ∧ k ≤ n ∧ (k : Int) ≠ id
structure Inv (K : List (List UInt8)) (M : Nat) (S : Sd) : Prop where
  n1 : 1 ≤ S.n ∧ S.n ≤ 9
  ho : ∀ i, i < S.n → OkH K M (S.ho i)
  tos : ∀ i, i < S.n → Tos S.n (i + 1 : Nat) (S.ho i)
  wy : ∀ p ∈ S.wy, OkP K M S.n p
  wl : S.wy.length ≤ 160 * M
  kl : K.length ≤ M
theorem hd0_ok : OkH [] 0 hd0 := ⟨List.Pairwise.nil, fun x hx => (by cases hx), by decide, by decide, fun k _ => (by show (0 : Nat) ≤ 0 ∧ (0 : Nat) ≤ 16 ∧ (0 : Nat) ≤ 0; decide), fun k _ b hb => (by cases hb)⟩
theorem Inv.start {n : Nat} (h : 1 ≤ n ∧ n ≤ 9) : Inv [] 0 (sd0 n) :=
  ⟨h, fun i _ => hd0_ok, fun i _ k _ hk => absurd rfl hk, fun p hp => (by cases hp), Nat.zero_le _, Nat.zero_le _⟩
theorem Inv.up {K : List (List UInt8)} {M M' : Nat} {S : Sd} (x : Inv K M S) (h : M ≤ M') : Inv K M' S :=
  ⟨x.n1, fun i hi => (x.ho i hi).up (fun _ y => y) h, x.tos, fun p hp => (x.wy p hp).up (fun _ y => y) h, by have := x.wl; omega, by have := x.kl; omega⟩
/-- One host has changed. -/
theorem Inv.put {K : List (List UInt8)} {M : Nat} {S : Sd} (x : Inv K M S) {i : Nat} {h : Hd} (hi : i < S.n) {K' : List (List UInt8)} {M' : Nat} (hK : ∀ k ∈ K, k ∈ K') (hM : M ≤ M') (hl : K'.length ≤ M') (o : OkH K' M' h) (t : Tos S.n (i + 1 : Nat) h) : Inv K' M' (putH S i h) :=
  ⟨x.n1, fun j hj => by
    show OkH K' M' (upd S.ho i h j)
    unfold upd
    split
    · exact o
    · exact (x.ho j hj).up hK hM, fun j hj => by
    show Tos S.n _ (upd S.ho i h j)
    unfold upd
    split
    · rename_i e; subst e; exact t
    · exact x.tos j hj, fun p hp => (x.wy p hp).up hK hM, by have := x.wl; show S.wy.length ≤ _; omega, hl⟩
theorem isHo_iff {n : Nat} {id : Int} : isHo n id = true ↔ 1 ≤ id ∧ id ≤ n := by unfold isHo; simp
theorem nd_of {n : Nat} {id : Int} (hn : n ≤ 9) (h : 1 ≤ id ∧ id ≤ n) : isNd id = true := by unfold isNd; simp; omega
theorem OkH.set {K : List (List UInt8)} {M n : Nat} {h : Hd} (x : OkH K M h) {fr up : List UInt8} {id : Int} (hf : fr.length ≤ 16) (hu : up.length ≤ 16) (hn : n ≤ 9) (hi : 1 ≤ id ∧ id ≤ n) : validB (setB h.kb fr up id) = true ∧ (setB h.kb fr up id).length ≤ 1 + 2 * (M + 1) :=
  ⟨set_valid x.kv hf hu (nd_of hn hi), by have h1 := setB_len h.kb fr up id; have h2 := x.kl; omega⟩
theorem OkH.apply {K : List (List UInt8)} {M : Nat} {h : Hd} (x : OkH K M h) {s : Sp} (hk : s.ky.length ≤ 16) (hv : s.vl.length ≤ 64) : OkH (s.ky :: K) (M + 1) (applyH s h).2.2 := by
  have u := x.up (K' := s.ky :: K) (fun k hk => List.mem_cons_of_mem _ hk) (Nat.le_succ M)
  unfold applyH
  split
  · refine ⟨setI_srt x.srt, fun y hy => ?_, u.kv, u.kl, u.nu, u.wt⟩
    rcases setI_mem hy with rfl | hy
    · exact ⟨List.mem_cons_self .., hk, hv, rfl⟩
    · exact u.its y hy
  · split
    · exact u
    · split
      · exact u
      · have hsub := delI_sub (lowP s.ky h.it) (lowP s.ky h.it + 1) (Nat.le_succ _) h.it
        exact ⟨x.srt.sublist hsub, fun y hy => u.its y (hsub.subset hy), u.kv, u.kl, u.nu, u.wt⟩
theorem answer_os (id : Int) (s : Sp) (h : Hd) : (answerH id s h).2.os = h.os := by
  unfold answerH applyH
  repeat' split
  all_goals rfl
theorem OkH.answer {K : List (List UInt8)} {M : Nat} {h : Hd} (x : OkH K M h) {s : Sp} {id : Int} (hk : s.ky.length ≤ 16) (hv : s.vl.length ≤ 64) : OkH (s.ky :: K) (M + 1) (answerH id s h).2 := by
  unfold answerH
  split
  · exact x.apply hk hv
  · exact x.up (fun k hk => List.mem_cons_of_mem _ hk) (Nat.le_succ M)
theorem OkH.give {K : List (List UInt8)} {M n : Nat} {h : Hd} (x : OkH K M h) {id : Int} {fr up : List UInt8} {dst : Nat} (hf : fr.length ≤ 16) (hu : up.length ≤ 16) (hn : n ≤ 9) (hd : 1 ≤ dst ∧ dst ≤ n) : OkH K (M + 1) (giveHd id fr up dst h).2 := by
  have u := x.up (K' := K) (fun k hk => hk) (Nat.le_succ M)
  unfold giveHd
  split
  · exact u
  · split
    · exact u
    · rename_i hhas hfull
      have hsm : someR fr up = true := by
        cases hs : someR fr up
        · exact absurd (show hasB h.kb fr up id = false by unfold hasB; rw [hs]; rfl) hhas
        · rfl
      have hsub := delI_sub (lowP fr h.it) (endP up h.it) (first_end x.srt hsm) h.it
      obtain ⟨v1, v2⟩ := x.set (fr := fr) (up := up) (id := dst) hf hu hn ⟨by omega, by omega⟩
      refine ⟨x.srt.sublist hsub, fun y hy => x.its y (hsub.subset hy), v1, v2, fun k hk => ?_, fun k hk b hb => ?_⟩
      · show (upd h.os dst (sendO (h.os dst) (packB fr up (midP fr up h.it))) k).ak + (upd h.os dst (sendO (h.os dst) (packB fr up (midP fr up h.it))) k).wt.length ≤ M + 1 ∧ (upd h.os dst (sendO (h.os dst) (packB fr up (midP fr up h.it))) k).wt.length ≤ 16 ∧ (upd h.os dst (sendO (h.os dst) (packB fr up (midP fr up h.it))) k).cm ≤ M + 1
        obtain ⟨a, b, c⟩ := x.nu k hk
        by_cases e : k = dst
        · subst e
          rw [upd_self]
          refine ⟨?_, ?_, ?_⟩
          · simp only [sendO, List.length_append, List.length_cons, List.length_nil]; omega
          · simp only [sendO, List.length_append, List.length_cons, List.length_nil]; omega
          · show (h.os k).cm ≤ _; omega
        · rw [upd_ne _ _ e]
          exact ⟨by omega, b, by omega⟩
      · have hb2 : b ∈ (upd h.os dst (sendO (h.os dst) (packB fr up (midP fr up h.it))) k).wt := hb
        unfold upd at hb2
        split at hb2
        · rename_i e
          subst e
          rcases List.mem_append.1 hb2 with hb2 | hb2
          · exact x.wt k hk b hb2
          · rw [List.mem_singleton.1 hb2]
            exact ⟨fr, up, _, rfl, hf, hu, hsm, mid_srt x.srt, fun y hy => ⟨x.its y (mid_mem hy), mid_in x.srt hy⟩⟩
        · exact x.wt k hk b hb2
theorem Tos.give {n : Nat} {h : Hd} {id : Int} (x : Tos n id h) {fr up : List UInt8} {dst : Nat} (hd : 1 ≤ dst ∧ dst ≤ n) (hne : (dst : Int) ≠ id) : Tos n id (giveHd id fr up dst h).2 := by
  unfold giveHd
  split
  · exact x
  · split
    · exact x
    · intro k hk hw
      have hw2 : (upd h.os dst (sendO (h.os dst) (packB fr up (midP fr up h.it))) k).wt ≠ [] := hw
      unfold upd at hw2
      split at hw2
      · rename_i e
        subst e
        exact ⟨hd.1, hd.2, hne⟩
      · exact x k hk hw2
theorem OkH.take {K : List (List UInt8)} {M n : Nat} {h : Hd} (x : OkH K M h) {id : Int} {b : List UInt8} (hb : GoodB K b) (hn : n ≤ 9) (hd : 1 ≤ id ∧ id ≤ n) : OkH K (M + 1) (takeHd id b h) := by
  obtain ⟨fr, up, l, rfl, hf, hu, _, hs, hl⟩ := hb
  have u := x.up (K' := K) (fun k hk => hk) (Nat.le_succ M)
  unfold takeHd
  rw [unp_pack hf hu (fun y hy => (hl y hy).1)]
  obtain ⟨v1, v2⟩ := x.set (fr := fr) (up := up) (id := id) hf hu hn hd
  refine ⟨setIs_srt x.srt, fun y hy => ?_, v1, v2, u.nu, u.wt⟩
  rcases setIs_mem hy with hy | hy
  · exact (hl y hy).1
  · exact x.its y hy
theorem ack_wt (o : Oh) (m : Int) (hm : 1 ≤ m) : (ackO o m).ak + (ackO o m).wt.length = o.ak + o.wt.length ∧ (ackO o m).wt.length ≤ o.wt.length ∧ (∀ b ∈ (ackO o m).wt, b ∈ o.wt) ∧ (ackO o m).cm = o.cm := by
  unfold ackO
  split
  · exact ⟨rfl, Nat.le_refl _, fun _ h => h, rfl⟩
  · refine ⟨?_, ?_, fun b h => List.mem_of_mem_drop h, rfl⟩
    · simp only [List.length_drop]; omega
    · simp only [List.length_drop]; omega
theorem rcvO_ok {K : List (List UInt8)} {M n : Nat} {p : Pk} {o : Oh} (hp : OkP K M n p) (h : o.ak + o.wt.length ≤ M ∧ o.wt.length ≤ 16 ∧ o.cm ≤ M) : ((rcvO o p).ak + (rcvO o p).wt.length ≤ M ∧ (rcvO o p).wt.length ≤ 16 ∧ (rcvO o p).cm ≤ M) ∧ ∀ b ∈ (rcvO o p).wt, b ∈ o.wt := by
  unfold rcvO
  split
  · obtain ⟨a1, a2, a3, a4⟩ := ack_wt o p.nu hp.nu.1
    exact ⟨⟨by omega, by omega, by omega⟩, a3⟩
  · split
    · rename_i e
      have := hp.nu.2
      exact ⟨⟨h.1, h.2.1, by show o.cm + 1 ≤ M; omega⟩, fun _ x => x⟩
    · exact ⟨h, fun _ x => x⟩
theorem OkH.rcv {K : List (List UInt8)} {M n : Nat} {h : Hd} (x : OkH K M h) {p : Pk} (hp : OkP K M n p) (id : Int) : OkH K M (rcvH id p h) := by
  refine ⟨x.srt, x.its, x.kv, x.kl, fun k hk => ?_, fun k hk b hb => ?_⟩
  · unfold rcvH
    dsimp only
    split
    · unfold upd
      split
      · rename_i e
        subst e
        exact (rcvO_ok hp (x.nu _ hk)).1
      · exact x.nu k hk
    · exact x.nu k hk
  · unfold rcvH at hb
    dsimp only at hb
    split at hb
    · unfold upd at hb
      split at hb
      · rename_i e
        subst e
        exact x.wt _ hk b ((rcvO_ok hp (x.nu _ hk)).2 b hb)
      · exact x.wt k hk b hb
    · exact x.wt k hk b hb
theorem Tos.rcv {n : Nat} {h : Hd} {id : Int} (x : Tos n id h) (p : Pk) (hp : 1 ≤ p.nu) : Tos n id (rcvH id p h) := by
  intro k hk hw
  unfold rcvH at hw
  dsimp only at hw
  split at hw
  · unfold upd at hw
    split at hw
    · rename_i e
      subst e
      refine x _ hk (fun e => hw ?_)
      unfold rcvO
      split
      · have := (ack_wt (h.os p.fr.toNat) p.nu hp).2.1
        rw [e] at this
        exact List.eq_nil_of_length_eq_zero (by simpa using this)
      · split <;> exact e
    · exact x k hk hw
  · exact x k hk hw
theorem cms_one {id : Int} {p : Pk} {h : Hd} : cmsH id p h = [] ∨ (p.ak = false ∧ cmsH id p h = [⟨p.fr, p.bd⟩]) := by
  unfold cmsH rcvC
  split
  · split
    · exact .inl rfl
    · rename_i hk
      split
      · exact .inr ⟨by simpa using hk, rfl⟩
      · exact .inl rfl
  · exact .inl rfl
theorem OkH.come {K : List (List UInt8)} {M n : Nat} {h : Hd} (x : OkH K M h) {p : Pk} (hp : OkP K M n p) {id : Int} (hn : n ≤ 9) (hd : 1 ≤ id ∧ id ≤ n) : OkH K (M + 1) (comeH id p h) := by
  unfold comeH takesH
  rcases cms_one (id := id) (p := p) (h := h) with e | ⟨ha, e⟩
  · rw [e]; exact (x.rcv hp id).up (fun _ y => y) (Nat.le_succ M)
  · rw [e]; exact (x.rcv hp id).take (hp.bd ha) hn hd
theorem take_os (id : Int) (b : List UInt8) (h : Hd) : (takeHd id b h).os = h.os := by unfold takeHd; split <;> rfl
theorem come_os (id : Int) (p : Pk) (h : Hd) : (comeH id p h).os = (rcvH id p h).os := by
  unfold comeH takesH
  rcases cms_one (id := id) (p := p) (h := h) with e | ⟨_, e⟩ <;> rw [e]
  · rfl
  · exact take_os _ _ _
theorem Tos.come {n : Nat} {h : Hd} {id : Int} (x : Tos n id h) (p : Pk) (hp : 1 ≤ p.nu) : Tos n id (comeH id p h) := fun k hk hw => by
  rw [come_os] at hw
  exact x.rcv p hp k hk hw
theorem aks_ok {K : List (List UInt8)} {M n : Nat} {h : Hd} (x : OkH K M h) {p : Pk} (hp : OkP K M n p) (hf : p.fr ≤ 9) {q : Pk} (hq : q ∈ aksH p.ds p h) : OkP K M n q := by
  unfold aksH at hq
  split at hq
  · unfold rcvA at hq
    split at hq
    · cases hq
    · split at hq
      · rename_i hc
        rw [List.mem_singleton.1 hq]
        have h1 := hp.fr
        have := (rcvO_ok hp (x.nu p.fr.toNat (by omega))).1.2.2
        exact ⟨hp.ds, hp.fr, ⟨by show (1 : Int) ≤ ((rcvO (h.os p.fr.toNat) p).cm : Int); omega, by show (((rcvO (h.os p.fr.toNat) p).cm : Nat) : Int) ≤ _; omega⟩, fun e => by cases e⟩
      · cases hq
  · cases hq
theorem aks_len (id : Int) (p : Pk) (h : Hd) : (aksH id p h).length ≤ 1 := by
  unfold aksH rcvA
  repeat' split
  all_goals simp
theorem pks_ok {K : List (List UInt8)} {M n i : Nat} {h : Hd} (x : OkH K M h) (t : Tos n (i + 1 : Nat) h) (hi : i < n) {q : Pk} (hq : q ∈ pksTo (i + 1 : Nat) h.os 10) : OkP K M n q := by
  unfold pksTo at hq
  obtain ⟨k, hk, hq⟩ := List.mem_flatMap.1 hq
  have hk10 : k < 10 := List.mem_range.1 hk
  unfold pksO at hq
  obtain ⟨j, hj, rfl⟩ := List.mem_mapIdx.1 hq
  have hne : (h.os k).wt ≠ [] := fun e => by rw [e] at hj; simp at hj
  obtain ⟨t1, t2, t3⟩ := t k hk10 hne
  obtain ⟨a, b, c⟩ := x.nu k hk10
  refine ⟨⟨?_, ?_⟩, ⟨?_, ?_⟩, ⟨?_, ?_⟩, fun _ => x.wt k hk10 _ (List.getElem_mem hj)⟩ <;> (simp only [pkO]; omega)
theorem Inv.send {K : List (List UInt8)} {M : Nat} {S : Sd} (x : Inv K M S) {i : Nat} (hi : i < S.n) : Inv K (M + 1) (sendS i S) := by
  have u := x.up (Nat.le_succ M)
  refine ⟨u.n1, u.ho, u.tos, fun p hp => ?_, ?_, u.kl⟩
  · rcases List.mem_append.1 hp with hp | hp
    · exact u.wy p hp
    · exact pks_ok (u.ho i hi) (x.tos i hi) hi hp
  · have h1 := pksTo_len (i + 1 : Nat) (S.ho i).os (fun k hk => ((x.ho i hi).nu k hk).2.1) 10 (Nat.le_refl _)
    have h2 := x.wl
    show (S.wy ++ _).length ≤ _
    rw [List.length_append]
    omega
theorem Inv.drop {K : List (List UInt8)} {M : Nat} {S : Sd} (x : Inv K M S) (k : Nat) : Inv K M (dropW k S) :=
  ⟨x.n1, x.ho, x.tos, fun p hp => by
    rcases List.mem_append.1 hp with hp | hp
    · exact x.wy p (List.mem_of_mem_take hp)
    · exact x.wy p (List.mem_of_mem_drop hp), by
    have := x.wl
    show (S.wy.take k ++ S.wy.drop (k + 1)).length ≤ _
    rw [List.length_append, List.length_take, List.length_drop]
    omega, x.kl⟩
theorem Inv.comes {K : List (List UInt8)} {M : Nat} {S : Sd} (x : Inv K M S) {p : Pk} (hp : OkP K M S.n p) : Inv K (M + 1) (comesS p S) := by
  have hn := x.n1.2
  have hd := hp.ds
  have hf := hp.fr
  have hi : p.ds.toNat - 1 < S.n := by omega
  have hid : ((p.ds.toNat - 1 + 1 : Nat) : Int) = p.ds := by omega
  have t := x.tos _ hi
  rw [hid] at t
  have pu := x.put (h := comeH p.ds p (S.ho (p.ds.toNat - 1))) hi (fun _ y => y) (Nat.le_succ M) (by have := x.kl; omega) ((x.ho _ hi).come hp hn hd) (by rw [hid]; exact t.come p hp.nu.1)
  refine ⟨pu.n1, pu.ho, pu.tos, fun q hq => ?_, ?_, pu.kl⟩
  · rcases List.mem_append.1 hq with hq | hq
    · exact pu.wy q hq
    · exact (aks_ok (x.ho _ hi) hp (by omega) hq).up (fun _ y => y) (Nat.le_succ M)
  · have h1 := aks_len p.ds p (S.ho (p.ds.toNat - 1))
    have h2 := x.wl
    show (S.wy ++ _).length ≤ _
    rw [List.length_append]
    omega
theorem Inv.carry {K : List (List UInt8)} {M : Nat} {S : Sd} (x : Inv K M S) (kd n : Int) : Inv K (M + 1) (carryS kd n S) := by
  have u := x.up (Nat.le_succ M)
  unfold carryS
  split
  · exact u
  · rename_i p hp
    have hm : p ∈ S.wy := List.mem_of_getElem? hp
    split
    · exact (x.drop _).comes (x.wy p hm)
    · split
      · exact u.drop _
      · split
        · refine ⟨u.n1, u.ho, u.tos, fun q hq => ?_, ?_, u.kl⟩
          · rcases List.mem_append.1 hq with hq | hq
            · exact u.wy q hq
            · rw [List.mem_singleton.1 hq]; exact u.wy p hm
          · have h2 := x.wl
            show (S.wy ++ [p]).length ≤ _
            rw [List.length_append, List.length_singleton]
            omega
        · exact u
theorem Inv.step {K : List (List UInt8)} {M : Nat} {S : Sd} (x : Inv K M S) (s : Sp) : Inv (s.ky :: K) (M + 1) (doS s S).2 := by
  have hK : ∀ k ∈ K, k ∈ s.ky :: K := fun k hk => List.mem_cons_of_mem _ hk
  have hl : (s.ky :: K).length ≤ M + 1 := by have := x.kl; rw [List.length_cons]; omega
  have more : ∀ {T : Sd}, Inv K (M + 1) T → Inv (s.ky :: K) (M + 1) T := fun y => ⟨y.n1, fun i hi => (y.ho i hi).up hK (Nat.le_refl _), y.tos, fun p hp => (y.wy p hp).up hK (Nat.le_refl _), y.wl, hl⟩
  have u := more (x.up (Nat.le_succ M))
  have hn := x.n1.2
  unfold doS
  split
  · exact more (x.carry _ _)
  · split
    · exact u
    · rename_i hh
      obtain ⟨h1, h2⟩ := isHo_iff.1 (by simpa using hh : isHo S.n s.hs = true)
      split
      · exact u
      · rename_i hm
        have hm' : mayS s = true := by simpa using hm
        unfold mayS at hm'
        simp only [Bool.and_eq_true, decide_eq_true_eq] at hm'
        obtain ⟨_, m1, m2, m3⟩ := hm'
        have hi : s.hs.toNat - 1 < S.n := by omega
        have hid : ((s.hs.toNat - 1 + 1 : Nat) : Int) = s.hs := by omega
        have t := x.tos _ hi
        split
        · refine x.put hi hK (Nat.le_succ M) hl ((x.ho _ hi).answer m1 m3) (fun k hk hw => ?_)
          rw [answer_os] at hw
          exact t k hk hw
        · split
          · split
            · exact u
            · rename_i ho
              have ho1 : isHo S.n s.ot = true := by
                cases h : isHo S.n s.ot
                · exact absurd (.inl h) ho
                · rfl
              have ho2 : s.ot ≠ s.hs := fun e => ho (.inr e)
              obtain ⟨o1, o2⟩ := isHo_iff.1 ho1
              rw [hid] at t
              exact x.put hi hK (Nat.le_succ M) hl (((x.ho _ hi).give (n := S.n) m1 m2 hn ⟨by omega, by omega⟩).up hK (Nat.le_refl _)) (by rw [hid]; exact t.give ⟨by omega, by omega⟩ (by omega))
          · split
            · exact more (x.send hi)
            · exact u
theorem Inv.sends {K : List (List UInt8)} {M : Nat} {S : Sd} (x : Inv K M S) : ∀ i, i ≤ S.n → Inv K (M + i) (sendsS i S)
  | 0, _ => x
  | i + 1, h => by
    have y := Inv.sends x i (by omega)
    exact y.send (by rw [sends_n]; omega)
theorem Inv.carries {K : List (List UInt8)} {M : Nat} {S : Sd} (x : Inv K M S) : ∀ i, Inv K (M + i) (carriesS i S)
  | 0 => x
  | i + 1 => (Inv.carries x i).carry 6 0
theorem heal_next (i : Nat) (S : Sd) : healS (i + 1) S = carriesS 2000 (sendsS S.n (healS i S)) := rfl
theorem Inv.heal {K : List (List UInt8)} {M : Nat} {S : Sd} (x : Inv K M S) : ∀ i, Inv K (M + 2009 * i) (healS i S)
  | 0 => x
  | i + 1 => by
    have y := Inv.heal x i
    have hn := x.n1.2
    have z := (y.sends S.n (by rw [heal_n]; exact Nat.le_refl _)).carries 2000
    rw [heal_next]
    exact z.up (by omega)
end Go.Proofs.Ytpfgnhockfofhaa
