/-
  Joined: WSm5, WSm6.
-/
import Derived.Test.YtpfgnhockfofhaaM17
/-
  Shared by many, plainly: twenty keys, and all that is so behind each step.
-/
namespace Go.Proofs.Ytpfgnhockfofhaa
open Go.RowKit

def lt (k : Nat) : List UInt8 := [UInt8.ofNat (97 + k)]
def isL (f : List UInt8) : Prop := ∃ k, k < 20 ∧ f = lt k
def isU (f : List UInt8) : Prop := f = [] ∨ isL f
theorem lt_less : ∀ a, a < 20 → ∀ b, b < 20 → lessB (lt a) (lt b) = decide (a < b) := by decide
theorem lt_inj {a b : Nat} (ha : a < 20) (hb : b < 20) (h : lt a = lt b) : a = b := by
  have h1 := lt_less a ha b hb
  have h2 := lt_less b hb a ha
  rw [h, less_irrefl] at h1
  rw [h, less_irrefl] at h2
  have h1 := of_decide_eq_false h1.symm
  have h2 := of_decide_eq_false h2.symm
  omega
theorem isL.len {f : List UInt8} (h : isL f) : f.length = 1 := by obtain ⟨k, _, rfl⟩ := h; rfl
theorem isU.len {f : List UInt8} (h : isU f) : f.length ≤ 1 := by
  rcases h with rfl | h
  · simp
  · exact Nat.le_of_eq h.len
def FrL (kb : List Bd) : Prop := ∀ x ∈ kb, isU x.f
theorem FrL.set {kb : List Bd} (h : FrL kb) {fr up : List UInt8} (hf : isU fr) (hu : isU up) (ho : Int) : FrL (setB kb fr up ho) := by
  unfold setB
  split
  · intro x hx
    have hx := (cmpF_sub _ _).subset hx
    unfold setL at hx
    rcases List.mem_append.1 hx with hx | hx
    · rcases List.mem_append.1 hx with hx | hx
      · exact h x (List.mem_of_mem_take hx)
      · rw [List.mem_singleton.1 hx]; exact hf
    · split at hx
      · cases hx
      · rcases List.mem_cons.1 hx with rfl | hx
        · exact hu
        · exact h x (List.mem_of_mem_drop hx)
  · exact h
theorem own_ex {kb : List Bd} (h : Sh kb) (key : List UInt8) : ∃ i, ∃ hi : i < kb.length, lessB key kb[i].f = false ∧ ∀ hj : i + 1 < kb.length, lessB key kb[i + 1].f = true := by
  have hp := h.pos
  have h0 : 0 < kb.findIdx (gtP key) := by
    cases hk : kb with
    | nil => rw [hk] at hp; simp at hp
    | cons x t =>
      have hf := h.fst
      rw [hk] at hf
      have hx : x.f = [] := by cases hh : x.f with | nil => rfl | cons a b => have : x.f.isEmpty = true := hf; rw [hh] at this; cases this
      rw [List.findIdx_cons]
      have : gtP key x = false := by unfold gtP; rw [hx]; exact less_nil_right _
      rw [this]
      simp
  have hle := List.findIdx_le_length (p := gtP key) (xs := kb)
  refine ⟨kb.findIdx (gtP key) - 1, by omega, ?_, fun hj => ?_⟩
  · have := List.not_of_lt_findIdx (p := gtP key) (xs := kb) (i := kb.findIdx (gtP key) - 1) (by omega)
    unfold gtP at this ⊢
    simpa using this
  · have hl : kb.findIdx (gtP key) < kb.length := by omega
    have h9 : gtP key kb[kb.findIdx (gtP key)] = true := List.findIdx_getElem (w := hl)
    have e : kb.findIdx (gtP key) - 1 + 1 = kb.findIdx (gtP key) := by omega
    simp only [e]
    exact h9
theorem in_self {fr up : List UInt8} : inR fr fr up = someR fr up := by
  unfold inR someR
  rw [less_irrefl]
  rfl
/-- Who has all of a range of the twenty keys has all of it. -/
theorem has_iff {kb : List Bd} (h : Sh kb) (hl : FrL kb) {fr up : List UInt8} (hf : isL fr) (ho : Int) : hasB kb fr up ho = true ↔ someR fr up = true ∧ ∀ k, k < 20 → inR (lt k) fr up = true → hoR 0 kb (lt k) = ho := by
  unfold hasB
  rw [Bool.and_eq_true, Bool.and_eq_true, hoAt_is, decide_eq_true_eq, Bool.not_eq_true', List.any_eq_false]
  constructor
  · rintro ⟨⟨h1, h2⟩, h3⟩
    refine ⟨h1, fun k _ hk => ?_⟩
    obtain ⟨i, hi, a1, a2⟩ := own_ex h (lt k)
    rw [hoR_own h.srt hi _ a1 a2]
    have h4 := h3 _ (List.getElem_mem hi)
    unfold othP at h4
    cases hin : inR kb[i].f fr up with
    | true => rw [hin] at h4; simpa using h4
    | false =>
      have hfr : lessB kb[i].f fr = true := by
        cases e : lessB kb[i].f fr with
        | true => rfl
        | false =>
          unfold inR at hin hk
          rw [e] at hin
          simp only [Bool.not_false, Bool.true_and, Bool.or_eq_false_iff] at hin
          simp only [Bool.and_eq_true, Bool.or_eq_true] at hk
          rcases hk.2 with h5 | h5
          · rw [hin.1] at h5; cases h5
          · have := le_less_trans a1 h5; rw [hin.2] at this; cases this
      have hk1 : lessB (lt k) fr = false := by
        unfold inR at hk
        simp only [Bool.and_eq_true, Bool.not_eq_true'] at hk
        exact hk.1
      rw [← h2, hoR_own h.srt hi fr (less_asymD hfr) (fun hj => le_less_trans hk1 (a2 hj))]
  · rintro ⟨h1, h2⟩
    obtain ⟨a, ha, rfl⟩ := hf
    refine ⟨⟨h1, h2 a ha (by rw [in_self]; exact h1)⟩, fun x hx => ?_⟩
    unfold othP
    simp only [Bool.and_eq_true, Bool.not_eq_true', decide_eq_false_iff_not, not_and]
    intro hne hin
    rcases hl x hx with e | ⟨k, hk, e⟩
    · rw [e] at hin
      have h9 : lessB [] (lt a) = true := rfl
      unfold inR at hin
      rw [h9] at hin
      cases hin
    · apply hne
      obtain ⟨i, hi, rfl⟩ := List.getElem_of_mem hx
      rw [← h2 k hk (by rw [← e]; exact hin), ← e]
      exact (hoR_own h.srt hi _ (less_irrefl _) (fun hj => h.srt.at hi hj (Nat.lt_succ_self _))).symm
/-- A body that hands a range of the twenty keys over. -/
def GoodL (b : List UInt8) : Prop := ∃ fr up l, unp b = some (fr, up, l) ∧ isL fr ∧ isU up ∧ someR fr up = true ∧ Srt l ∧ ∀ z ∈ l, inR z.k fr up = true
structure JJ (K : List (List UInt8)) (M : Nat) (S : Sd) (sn : Snt) (Mp : Nat → Option (List UInt8)) : Prop where
  inv : Inv K M S
  rs : RS S sn
  fl : ∀ i, i < S.n → FrL (S.ho i).kb
  gl : ∀ i j, ∀ b ∈ sn i j, GoodL b
  ki : ∀ k, k < 20 → ∃ y past fl, KI S sn (lt k) y past fl (Mp k)
theorem JJ.start {n : Nat} (h : 1 ≤ n ∧ n ≤ 9) : JJ [] 0 (sd0 n) (fun _ _ => []) (fun _ => none) :=
  ⟨Inv.start h, RS.start n, fun i _ x hx => .inl (by rw [List.mem_singleton.1 hx]), fun _ _ b hb => (by cases hb), fun k _ => ⟨0, [], false, KI.start (by omega) _⟩⟩
theorem JJ.sh {K : List (List UInt8)} {M : Nat} {S : Sd} {sn : Snt} {Mp : Nat → Option (List UInt8)} (x : JJ K M S sn Mp) {i : Nat} (hi : i < S.n) : Sh (S.ho i).kb := (valid_sh.1 (x.inv.ho i hi).kv).1
theorem JJ.up {K K' : List (List UInt8)} {M M' : Nat} {S : Sd} {sn : Snt} {Mp : Nat → Option (List UInt8)} (x : JJ K M S sn Mp) (i : Inv K' M' S) : JJ K' M' S sn Mp := ⟨i, x.rs, x.fl, x.gl, x.ki⟩
/-- Only what is on its way changes. -/
theorem JJ.way {K K' : List (List UInt8)} {M M' : Nat} {S S' : Sd} {sn : Snt} {Mp : Nat → Option (List UInt8)} (x : JJ K M S sn Mp) (i : Inv K' M' S') (r : RS S' sn) (hn : S'.n = S.n) (ho : S'.ho = S.ho) : JJ K' M' S' sn Mp := by
  refine ⟨i, r, fun a ha => ?_, x.gl, fun k hk => ?_⟩
  · rw [ho]; exact x.fl a (by omega)
  · obtain ⟨y, past, fl, z⟩ := x.ki k hk
    exact ⟨y, past, fl, z.same hn (fun h _ => by rw [ho]) (fun a c => by unfold CM; rw [ho]) (fun h _ z _ => by rw [ho])⟩
theorem JJ.send {K : List (List UInt8)} {M : Nat} {S : Sd} {sn : Snt} {Mp : Nat → Option (List UInt8)} (x : JJ K M S sn Mp) {i : Nat} (hi : i < S.n) : JJ K (M + 1) (sendS i S) sn Mp :=
  x.way (x.inv.send hi) (x.rs.sendAll hi (x.inv.tos i hi)) rfl rfl
theorem JJ.comes {K K' : List (List UInt8)} {M M' : Nat} {S : Sd} {sn : Snt} {Mp : Nat → Option (List UInt8)} (x : JJ K M S sn Mp) {p : Pk} (hp : OkW S sn p) (iv : Inv K' M' (comesS p S)) : JJ K' M' (comesS p S) sn Mp := by
  obtain ⟨i, j, hi, hj, hij, h1, h2, h3, h4, h5⟩ := hp
  have h9 := x.inv.n1.2
  obtain ⟨r, c⟩ := x.rs.comes h9 hi hj hij h1 h2 h3 h4 h5
  have hg : goodP p.ds p = true := by
    unfold goodP isOth isNd
    rw [h1, h2]
    simp
    omega
  have e1 : p.ds.toNat - 1 = j := by omega
  have e2 : p.fr.toNat = i + 1 := by omega
  have hho : ∀ a, (comesS p S).ho a = if a = j then comeH p.ds p (S.ho j) else S.ho a := fun a => by
    show upd S.ho (p.ds.toNat - 1) (comeH p.ds p (S.ho (p.ds.toNat - 1))) a = _
    rw [e1]; rfl
  have hcms : cmsH p.ds p (S.ho j) = if p.ak = false ∧ p.nu = (CM S i j : Int) + 1 then [⟨p.fr, p.bd⟩] else [] := by
    unfold cmsH rcvC
    rw [hg, if_pos rfl, e2]
    cases hk : p.ak with
    | true => rw [if_pos rfl, if_neg (fun z => by cases z.1)]
    | false =>
      rw [if_neg (by decide)]
      by_cases hx : p.nu = (CM S i j : Int) + 1
      · exact (if_pos hx).trans (if_pos ⟨rfl, hx⟩).symm
      · exact (if_neg hx).trans (if_neg (fun z => hx z.2)).symm
  by_cases hnew : p.ak = false ∧ p.nu = (CM S i j : Int) + 1
  · have hbd : (sn i j)[CM S i j]? = some p.bd := by
      have := (h5 hnew.1).2
      rw [show p.nu.toNat - 1 = CM S i j by omega] at this
      exact this
    obtain ⟨fr, up, l, u1, u2, u3, u4, u5, u6⟩ := x.gl i j p.bd (List.mem_of_getElem? hbd)
    have hcome : comeH p.ds p (S.ho j) = ⟨(rcvH p.ds p (S.ho j)).os, setIs l (S.ho j).it, setB (S.ho j).kb fr up p.ds⟩ := by
      unfold comeH
      rw [hcms, if_pos hnew]
      show takeHd p.ds p.bd (rcvH p.ds p (S.ho j)) = _
      unfold takeHd
      rw [u1]
      rfl
    have g : Cv S (comesS p S) sn i j fr up l p.bd := by
      refine ⟨rfl, fun a d => ?_, hbd, u1, u5, u6, fun a ha => ?_, ?_, ?_⟩
      · rw [c.cm]
        by_cases e : a = i ∧ d = j
        · rw [if_pos ⟨e.1, e.2, hnew⟩, if_pos e]
        · rw [if_neg (fun z => e ⟨z.1, z.2.1⟩), if_neg e]
      · rw [hho, if_neg ha]; exact ⟨rfl, rfl⟩
      · rw [hho, if_pos rfl, hcome, ← h2]
      · rw [hho, if_pos rfl, hcome]
    refine ⟨iv, r, fun a ha => ?_, x.gl, fun k hk => ?_⟩
    · rw [hho]
      split
      · rw [hcome]; exact (x.fl j hj).set (.inr u2) u3 _
      · exact x.fl a ha
    · obtain ⟨y, past, fl, z⟩ := x.ki k hk
      obtain ⟨fl', z'⟩ := z.come g hi hj hij (x.inv.ho j hj).srt (x.sh hj)
      exact ⟨y, past, fl', z'⟩
  · have hcome : comeH p.ds p (S.ho j) = rcvH p.ds p (S.ho j) := by
      unfold comeH
      rw [hcms, if_neg hnew]
      rfl
    have hkb : ∀ a, ((comesS p S).ho a).kb = (S.ho a).kb ∧ ((comesS p S).ho a).it = (S.ho a).it := fun a => by
      rw [hho]
      split
      · rename_i e; rw [hcome, e]; exact ⟨rfl, rfl⟩
      · exact ⟨rfl, rfl⟩
    refine ⟨iv, r, fun a ha => by rw [(hkb a).1]; exact x.fl a ha, x.gl, fun k hk => ?_⟩
    obtain ⟨y, past, fl, z⟩ := x.ki k hk
    refine ⟨y, past, fl, z.same rfl (fun h _ => by rw [(hkb h).1]) (fun a d => ?_) (fun h _ q _ => by rw [(hkb h).2])⟩
    rw [c.cm, if_neg (fun z => hnew z.2.2)]
theorem JJ.carry {K : List (List UInt8)} {M : Nat} {S : Sd} {sn : Snt} {Mp : Nat → Option (List UInt8)} (x : JJ K M S sn Mp) (kd n : Int) : JJ K (M + 1) (carryS kd n S) sn Mp := by
  have iv := x.inv.carry kd n
  have i1 : Inv K (M + 1) S := x.inv.up (Nat.le_succ M)
  unfold carryS at iv ⊢
  split at iv
  · exact x.up i1
  · rename_i p hp
    have hm : p ∈ S.wy := List.mem_of_getElem? hp
    have dr := x.way (x.inv.drop (atW n S.wy.length)) (x.rs.drop (atW n S.wy.length)) rfl rfl
    have hok := (x.rs.wy p hm).up (S' := dropW (atW n S.wy.length) S) (sn' := sn) rfl (fun _ _ _ _ _ => Nat.le_refl _) (fun _ _ => ⟨[], by simp⟩)
    by_cases h6 : kd = 6
    · rw [if_pos h6] at iv; simp only [if_pos h6]; exact dr.comes hok iv
    · rw [if_neg h6] at iv
      simp only [if_neg h6]
      by_cases h7 : kd = 7
      · rw [if_pos h7] at iv; simp only [if_pos h7]; exact dr.up iv
      · rw [if_neg h7] at iv
        simp only [if_neg h7]
        by_cases h8 : kd = 8
        · rw [if_pos h8] at iv
          simp only [if_pos h8]
          refine x.way iv (x.rs.ways rfl (fun _ => rfl) (fun q hq => ?_)) rfl rfl
          rcases List.mem_append.1 hq with hq | hq
          · exact x.rs.wy q hq
          · rw [List.mem_singleton.1 hq]; exact x.rs.wy p hm
        · simp only [if_neg h8]; exact x.up i1
theorem JJ.sends {K : List (List UInt8)} {M : Nat} {S : Sd} {sn : Snt} {Mp : Nat → Option (List UInt8)} (x : JJ K M S sn Mp) : ∀ i, i ≤ S.n → JJ K (M + i) (sendsS i S) sn Mp
  | 0, _ => x
  | i + 1, h => (JJ.sends x i (by omega)).send (by rw [sends_n]; omega)
theorem JJ.carries {K : List (List UInt8)} {M : Nat} {S : Sd} {sn : Snt} {Mp : Nat → Option (List UInt8)} (x : JJ K M S sn Mp) : ∀ i, JJ K (M + i) (carriesS i S) sn Mp
  | 0 => x
  | i + 1 => (JJ.carries x i).carry 6 0
theorem JJ.heal {K : List (List UInt8)} {M : Nat} {S : Sd} {sn : Snt} {Mp : Nat → Option (List UInt8)} (x : JJ K M S sn Mp) : JJ K (M + 2009) (healS 1 S) sn Mp := by
  have h9 := x.inv.n1.2
  have z := (x.sends S.n (Nat.le_refl _)).carries 2000
  exact z.up (z.inv.up (by omega))
end Go.Proofs.Ytpfgnhockfofhaa

/-
  Shared by many, plainly: what each step answers, and what it leaves.
-/
namespace Go.Proofs.Ytpfgnhockfofhaa
open Go.RowKit

theorem put_same (S : Sd) (i : Nat) : putH S i (S.ho i) = S := by unfold putH; rw [upd_id]
theorem put_ho (S : Sd) (i : Nat) (hd : Hd) (a : Nat) : (putH S i hd).ho a = if a = i then hd else S.ho a := rfl
/-- What a step on a key makes of its value. -/
def newM (kd : Int) (v : List UInt8) (o : Option (List UInt8)) : Option (List UInt8) := if kd = 1 then some v else if kd = 3 then none else o
theorem ask_is {S : Sd} {s : Sp} {h : Nat} (hk : 1 ≤ s.kd ∧ s.kd ≤ 3) (hh : h < S.n) (hs : s.hs = (h : Int) + 1) (hm : mayS s = true) : doS s S = ((answerH s.hs s (S.ho h)).1, putH S h (answerH s.hs s (S.ho h)).2) := by
  have e : s.hs.toNat - 1 = h := by omega
  have h1 : isHo S.n s.hs = true := isHo_iff.2 ⟨by omega, by omega⟩
  unfold doS
  rw [if_neg (by omega), h1, if_neg (by decide), hm, if_neg (by decide), if_pos hk, e]
theorem get_is {S : Sd} {s : Sp} {h : Nat} (hk : s.kd = 2) (hh : h < S.n) (hs : s.hs = (h : Int) + 1) (hm : mayS s = true) : (doS s S).2 = S := by
  rw [ask_is ⟨by omega, by omega⟩ hh hs hm]
  have : (answerH s.hs s (S.ho h)).2 = S.ho h := by
    unfold answerH applyH
    rw [if_neg (show ¬ s.kd = 1 by omega), if_pos hk]
    repeat' split
    all_goals rfl
  rw [this]
  exact put_same S h
theorem JJ.ask {K : List (List UInt8)} {M : Nat} {S : Sd} {sn : Snt} {Mp : Nat → Option (List UInt8)} (x : JJ K M S sn Mp) {s : Sp} {h k : Nat} (hk : 1 ≤ s.kd ∧ s.kd ≤ 3) (hh : h < S.n) (hs : s.hs = (h : Int) + 1) (hm : mayS s = true) (hk2 : k < 20) (hky : s.ky = lt k) :
    (doS s S).1.er = 0 ∧ (doS s S).1.ho = hoR 0 (S.ho h).kb (lt k) ∧ ((doS s S).1.ho ≠ s.hs → JJ (s.ky :: K) (M + 1) (doS s S).2 sn Mp) ∧
    ((doS s S).1.ho = s.hs → (doS s S).1.rk = (if s.kd = 1 ∨ (Mp k).isSome = true then 1 else 2) ∧ (s.kd = 2 → (doS s S).1.rv = (Mp k).getD []) ∧ JJ (s.ky :: K) (M + 1) (doS s S).2 sn (upd Mp k (newM s.kd s.vl (Mp k)))) := by
  have iv := x.inv.step s
  have hS := x.inv.ho h hh
  rw [ask_is hk hh hs hm] at iv ⊢
  dsimp only at iv ⊢
  have hat : hoAt s.ky (S.ho h).kb = hoR 0 (S.ho h).kb (lt k) := by rw [hoAt_is, hky]
  by_cases hown : hoAt s.ky (S.ho h).kb = s.hs
  · have e1 : answerH s.hs s (S.ho h) = (⟨0, hoAt s.ky (S.ho h).kb, (applyH s (S.ho h)).1, (applyH s (S.ho h)).2.1⟩, (applyH s (S.ho h)).2.2) := if_pos hown
    rw [e1] at iv ⊢
    dsimp only at iv ⊢
    refine ⟨rfl, hat, fun e => absurd hown e, fun _ => ?_⟩
    obtain ⟨y, past, fl, z⟩ := x.ki k hk2
    obtain ⟨rfl, rfl⟩ := (z.self hh).1 (by rw [← hat, hown, hs])
    have hHas := z.it h hh
    rw [if_pos ⟨rfl, rfl⟩] at hHas
    have ht := hHas.there hS.srt
    rw [← hky] at ht
    have hsame : ∀ {hd : Hd}, hd.os = (S.ho h).os → hd.kb = (S.ho h).kb → Inv (s.ky :: K) (M + 1) (putH S h hd) → (∀ q : Pr, q.k ≠ lt k → (q ∈ hd.it ↔ q ∈ (S.ho h).it)) → ∀ o', Has (lt k) hd.it o' → JJ (s.ky :: K) (M + 1) (putH S h hd) sn (upd Mp k o') := fun {hd} h1 h2 h3 h4 o' h5 => by
      have os : ∀ a, ((putH S h hd).ho a).os = (S.ho a).os := fun a => by
        rw [put_ho]; split
        · rename_i e; rw [e, h1]
        · rfl
      have kb : ∀ a, ((putH S h hd).ho a).kb = (S.ho a).kb := fun a => by
        rw [put_ho]; split
        · rename_i e; rw [e, h2]
        · rfl
      have cm : ∀ a c, CM (putH S h hd) a c = CM S a c := fun a c => by unfold CM; rw [os]
      refine ⟨h3, x.rs.same rfl os (fun p hp => hp), fun a ha => by rw [kb]; exact x.fl a ha, x.gl, fun k' hk' => ?_⟩
      by_cases e : k' = k
      · subst e
        rw [upd_self]
        exact ⟨h, past, false, z.set rfl kb cm (fun a ha => by rw [put_ho, if_neg ha]) (by rw [put_ho, if_pos rfl]; exact h5)⟩
      · rw [upd_ne _ _ e]
        obtain ⟨y', past', fl', z'⟩ := x.ki k' hk'
        refine ⟨y', past', fl', z'.same rfl (fun a _ => by rw [kb]) cm (fun a _ q hq => ?_)⟩
        rw [put_ho]
        split
        · rename_i ea
          rw [ea]
          exact h4 q (fun e2 => e (lt_inj hk' hk2 (by rw [← hq, e2])))
        · exact Iff.rfl
    by_cases k1 : s.kd = 1
    · have ea : applyH s (S.ho h) = (1, [], { S.ho h with it := setI ⟨s.ky, s.vl, 0⟩ (S.ho h).it }) := if_pos k1
      rw [ea] at iv ⊢
      dsimp only at iv ⊢
      refine ⟨by rw [if_pos (.inl k1)], fun e => by omega, ?_⟩
      have en : newM s.kd s.vl (Mp k) = some s.vl := if_pos k1
      rw [en]
      refine hsame (hd := { S.ho h with it := setI ⟨s.ky, s.vl, 0⟩ (S.ho h).it }) rfl rfl iv (fun q hq => ?_) (some s.vl) ⟨⟨s.ky, s.vl, 0⟩, (mem_setI hS.srt).2 (.inl rfl), hky, rfl⟩
      show q ∈ setI ⟨s.ky, s.vl, 0⟩ (S.ho h).it ↔ _
      rw [mem_setI hS.srt]
      constructor
      · rintro (e | e)
        · exact absurd (by rw [e]; exact hky) hq
        · exact e.1
      · exact fun e => .inr ⟨e, by show q.k ≠ s.ky; rw [hky]; exact hq⟩
    · cases hth : isThere s.ky (S.ho h).it with
      | false =>
        have ea : applyH s (S.ho h) = (2, [], S.ho h) := by unfold applyH; rw [if_neg k1, hth, if_pos rfl]
        rw [hth] at ht
        have en : Mp k = none := by cases hmp : Mp k with | none => rfl | some v => rw [hmp] at ht; cases ht
        rw [ea] at iv ⊢
        dsimp only at iv ⊢
        rw [en] at hHas ⊢
        refine ⟨by rw [if_neg (by simp [k1])], fun _ => rfl, ?_⟩
        have en2 : newM s.kd s.vl none = none := by unfold newM; rw [if_neg k1]; split <;> rfl
        rw [en2]
        exact hsame rfl rfl iv (fun _ _ => Iff.rfl) _ hHas
      | true =>
        rw [hth] at ht
        obtain ⟨v, hv⟩ : ∃ v, Mp k = some v := by cases hmp : Mp k with | none => rw [hmp] at ht; cases ht | some v => exact ⟨v, rfl⟩
        rw [hv] at hHas ⊢
        by_cases k2 : s.kd = 2
        · have ea : applyH s (S.ho h) = (1, (match (S.ho h).it[lowP s.ky (S.ho h).it]? with | some x => x.v | none => []), S.ho h) := by unfold applyH; rw [if_neg k1, hth, if_neg (by decide), if_pos k2]; rfl
          rw [ea] at iv ⊢
          dsimp only at iv ⊢
          refine ⟨by rw [if_pos (.inr rfl)], fun _ => ?_, ?_⟩
          · rw [hky]; exact hHas.val hS.srt
          · have en2 : newM s.kd s.vl (some v) = some v := by unfold newM; rw [if_neg k1, if_neg (by omega)]
            rw [en2]
            exact hsame rfl rfl iv (fun _ _ => Iff.rfl) _ hHas
        · have ea : applyH s (S.ho h) = (1, [], { S.ho h with it := delI (lowP s.ky (S.ho h).it) (lowP s.ky (S.ho h).it + 1) (S.ho h).it }) := by unfold applyH; rw [if_neg k1, hth, if_neg (by decide), if_neg k2]
          rw [ea] at iv ⊢
          dsimp only at iv ⊢
          refine ⟨by rw [if_pos (.inr rfl)], fun e => absurd e k2, ?_⟩
          have en2 : newM s.kd s.vl (some v) = none := by unfold newM; rw [if_neg k1, if_pos (by omega)]
          rw [en2]
          refine hsame (hd := { S.ho h with it := delI (lowP s.ky (S.ho h).it) (lowP s.ky (S.ho h).it + 1) (S.ho h).it }) rfl rfl iv (fun q hq => ?_) none (fun q hq e => ?_)
          · show q ∈ delI _ _ _ ↔ _
            rw [mem_delOne hS.srt hth]
            exact ⟨fun e => e.1, fun e => ⟨e, by rw [hky]; exact hq⟩⟩
          · exact ((mem_delOne hS.srt hth).1 hq).2 (by rw [hky]; exact e)
  · have e1 : answerH s.hs s (S.ho h) = (⟨0, hoAt s.ky (S.ho h).kb, 0, []⟩, S.ho h) := if_neg hown
    rw [e1] at iv ⊢
    dsimp only at iv ⊢
    rw [put_same] at iv ⊢
    exact ⟨rfl, hat, fun _ => x.up iv, fun e => absurd e hown⟩
/-- Hand-overs. -/
theorem move_is {S : Sd} {s : Sp} {h o : Nat} (hk : s.kd = 4) (hh : h < S.n) (hs : s.hs = (h : Int) + 1) (ho : o < S.n) (hot : s.ot = (o : Int) + 1) (hne : h ≠ o) (hm : mayS s = true) : doS s S = (⟨(giveHd s.hs s.ky s.up (o + 1) (S.ho h)).1, s.hs, 0, []⟩, putH S h (giveHd s.hs s.ky s.up (o + 1) (S.ho h)).2) := by
  have e : s.hs.toNat - 1 = h := by omega
  have e2 : s.ot.toNat = o + 1 := by omega
  have h1 : isHo S.n s.hs = true := isHo_iff.2 ⟨by omega, by omega⟩
  have h2 : isHo S.n s.ot = true := isHo_iff.2 ⟨by omega, by omega⟩
  unfold doS
  rw [if_neg (by omega), h1, if_neg (by decide), hm, if_neg (by decide), if_neg (by omega), if_pos hk, h2, if_neg (by rintro (z | z); cases z; omega), e, e2]
structure MvPost (K : List (List UInt8)) (M : Nat) (S : Sd) (sn : Snt) (Mp : Nat → Option (List UInt8)) (s : Sp) (h o : Nat) (a : An) (S' : Sd) : Prop where
  ho : a.ho = s.hs
  st : ∃ sn', JJ (s.ky :: K) (M + 1) S' sn' Mp ∧ ∀ i j, (sn' i j).length = (sn i j).length + if i = h ∧ j = o ∧ a.er = 0 then 1 else 0
  er : (hasB (S.ho h).kb s.ky s.up ((h : Int) + 1) = true ∧ (a.er = 0 ∨ (a.er = 4 ∧ 16 ≤ (sn h o).length))) ∨ (hasB (S.ho h).kb s.ky s.up ((h : Int) + 1) = false ∧ a.er = 14)
theorem JJ.move {K : List (List UInt8)} {M : Nat} {S : Sd} {sn : Snt} {Mp : Nat → Option (List UInt8)} (x : JJ K M S sn Mp) {s : Sp} {h o : Nat} (hk : s.kd = 4) (hh : h < S.n) (hs : s.hs = (h : Int) + 1) (ho : o < S.n) (hot : s.ot = (o : Int) + 1) (hne : h ≠ o) (hm : mayS s = true) (hky : isL s.ky) (hup : isU s.up) :
    MvPost K M S sn Mp s h o (doS s S).1 (doS s S).2 := by
  have iv := x.inv.step s
  have hS := x.inv.ho h hh
  rw [move_is hk hh hs ho hot hne hm] at iv ⊢
  dsimp only at iv ⊢
  have nolen : ∀ {e : Int}, e ≠ 0 → ∀ i j, (sn i j).length = (sn i j).length + if i = h ∧ j = o ∧ e = 0 then 1 else 0 := fun he i j => by rw [if_neg (fun z => he z.2.2)]; rfl
  have hsi : hasB (S.ho h).kb s.ky s.up s.hs = hasB (S.ho h).kb s.ky s.up ((h : Int) + 1) := by rw [hs]
  cases hb : hasB (S.ho h).kb s.ky s.up ((h : Int) + 1) with
  | false =>
    have eg : giveHd s.hs s.ky s.up (o + 1) (S.ho h) = (14, S.ho h) := by unfold giveHd; rw [hsi, hb, if_pos rfl]
    rw [eg] at iv ⊢
    dsimp only at iv ⊢
    rw [put_same] at iv ⊢
    exact ⟨rfl, ⟨sn, x.up iv, nolen (e := 14) (by decide)⟩, .inr ⟨hb, rfl⟩⟩
  | true =>
    by_cases hw : ((S.ho h).os (o + 1)).wt.length = 16
    · have eg : giveHd s.hs s.ky s.up (o + 1) (S.ho h) = (4, S.ho h) := by unfold giveHd; rw [hsi, hb, if_neg (by decide), if_pos hw]
      rw [eg] at iv ⊢
      dsimp only at iv ⊢
      rw [put_same] at iv ⊢
      refine ⟨rfl, ⟨sn, x.up iv, nolen (e := 4) (by decide)⟩, .inl ⟨hb, .inr ⟨rfl, ?_⟩⟩⟩
      have h1 := x.rs.wt h o hh ho hne
      have h2 : (WT S h o).length = 16 := hw
      rw [h1, List.length_drop] at h2
      omega
    · have eg : giveHd s.hs s.ky s.up (o + 1) (S.ho h) = (0, ⟨upd (S.ho h).os (o + 1) (sendO ((S.ho h).os (o + 1)) (packB s.ky s.up (midP s.ky s.up (S.ho h).it))), delI (lowP s.ky (S.ho h).it) (endP s.up (S.ho h).it) (S.ho h).it, setB (S.ho h).kb s.ky s.up ((o + 1 : Nat) : Int)⟩) := by
        unfold giveHd; rw [hsi, hb, if_neg (by decide), if_neg hw]
      rw [eg] at iv ⊢
      dsimp only at iv ⊢
      obtain ⟨hsm, hall⟩ := (has_iff (x.sh hh) (x.fl h hh) hky _).1 hb
      have hu : unp (packB s.ky s.up (midP s.ky s.up (S.ho h).it)) = some (s.ky, s.up, midP s.ky s.up (S.ho h).it) :=
        unp_pack (K := K) (by have := hky.len; omega) (by have := hup.len; omega) (fun z hz => hS.its z (mid_mem hz))
      obtain ⟨b, hbe⟩ : ∃ b, b = packB s.ky s.up (midP s.ky s.up (S.ho h).it) := ⟨_, rfl⟩
      rw [← hbe] at hu iv ⊢
      obtain ⟨hd, hhd⟩ : ∃ hd : Hd, hd = ⟨upd (S.ho h).os (o + 1) (sendO ((S.ho h).os (o + 1)) b), delI (lowP s.ky (S.ho h).it) (endP s.up (S.ho h).it) (S.ho h).it, setB (S.ho h).kb s.ky s.up ((o + 1 : Nat) : Int)⟩ := ⟨_, rfl⟩
      rw [← hhd] at iv ⊢
      have r := x.rs.send hh ho hne b (hd := hd) (by rw [hhd])
      have g : Gv S (putH S h hd) sn (put2 sn h o b) h o s.ky s.up b := by
        refine ⟨rfl, fun a c => ?_, rfl, hu, hsm, fun a ha => by rw [put_ho, if_neg ha]; exact ⟨rfl, rfl⟩, ?_, ?_⟩
        · unfold CM
          rw [put_ho]
          split
          · rename_i e
            rw [e, hhd]
            show (upd (S.ho h).os (o + 1) (sendO ((S.ho h).os (o + 1)) b) (a + 1)).cm = _
            by_cases e2 : a + 1 = o + 1
            · rw [e2, upd_self]; rfl
            · rw [upd_ne _ _ e2]
          · rfl
        · rw [put_ho, if_pos rfl, hhd]; rfl
        · rw [put_ho, if_pos rfl, hhd]
      refine ⟨rfl, ⟨put2 sn h o b, ⟨iv, r, fun a ha => ?_, fun i j c hc => ?_, fun k hk2 => ?_⟩, fun i j => ?_⟩, .inl ⟨hb, .inl rfl⟩⟩
      · rw [put_ho]
        split
        · rw [hhd]; exact (x.fl h hh).set (.inr hky) hup _
        · exact x.fl a ha
      · unfold put2 at hc
        split at hc
        · rcases List.mem_append.1 hc with hc | hc
          · exact x.gl h o c hc
          · rw [List.mem_singleton.1 hc]
            exact ⟨s.ky, s.up, _, hu, hky, hup, hsm, mid_srt hS.srt, fun z hz => mid_in hS.srt hz⟩
        · exact x.gl i j c hc
      · obtain ⟨y, past, fl, z⟩ := x.ki k hk2
        exact z.give x.rs g hh ho hne hS.srt (x.sh hh) (fun hin => hall k hk2 hin)
      · unfold put2
        by_cases e : i = h ∧ j = o
        · rw [if_pos e, if_pos ⟨e.1, e.2, rfl⟩, e.1, e.2, List.length_append]; rfl
        · rw [if_neg e, if_neg (fun z => e ⟨z.1, z.2.1⟩)]; rfl
/-- Any other step. -/
theorem JJ.other {K : List (List UInt8)} {M : Nat} {S : Sd} {sn : Snt} {Mp : Nat → Option (List UInt8)} (x : JJ K M S sn Mp) {s : Sp} {h : Nat} (hk : 4 ≤ s.kd) (hh : h < S.n) (hs : s.hs = (h : Int) + 1) (hne : s.kd = 4 → s.ot = s.hs) : JJ (s.ky :: K) (M + 1) (doS s S).2 sn Mp := by
  have iv := x.inv.step s
  have e : s.hs.toNat - 1 = h := by omega
  have h1 : isHo S.n s.hs = true := isHo_iff.2 ⟨by omega, by omega⟩
  unfold doS at iv ⊢
  by_cases h6 : 6 ≤ s.kd
  · simp only [if_pos h6] at iv ⊢
    exact (x.carry s.kd s.nn).up iv
  · simp only [if_neg h6] at iv ⊢
    rw [h1, if_neg (by decide)] at iv ⊢
    cases hm : mayS s with
    | false => rw [hm, if_pos rfl] at iv; rw [if_pos rfl]; exact x.up iv
    | true =>
      rw [hm, if_neg (by decide)] at iv
      rw [if_neg (by decide)]
      rw [if_neg (by omega)] at iv ⊢
      by_cases h4 : s.kd = 4
      · rw [if_pos h4, if_pos (.inr (hne h4))] at iv ⊢
        exact x.up iv
      · rw [if_neg h4] at iv ⊢
        by_cases h5 : s.kd = 5
        · rw [if_pos h5, e] at iv ⊢
          exact (x.send hh).up iv
        · rw [if_neg h5] at iv ⊢
          exact x.up iv
/-- At most one host says that it has a key. -/
theorem JJ.one {K : List (List UInt8)} {M : Nat} {S : Sd} {sn : Snt} {Mp : Nat → Option (List UInt8)} (x : JJ K M S sn Mp) {k a b : Nat} (hk : k < 20) (ha : a < S.n) (hb : b < S.n) (h1 : hoR 0 (S.ho a).kb (lt k) = (a : Int) + 1) (h2 : hoR 0 (S.ho b).kb (lt k) = (b : Int) + 1) : a = b := by
  obtain ⟨y, past, fl, z⟩ := x.ki k hk
  rw [((z.self ha).1 h1).2, ((z.self hb).1 h2).2]
/-- All has come: each key has a host, whom one finds. -/
theorem JJ.end {K : List (List UInt8)} {M : Nat} {S : Sd} {sn : Snt} {Mp : Nat → Option (List UInt8)} (x : JJ K M S sn Mp) (hd : Dlv S sn) {k : Nat} (hk : k < 20) : ∃ y past, y < S.n ∧ (∀ h, h < S.n → hoR 0 (S.ho h).kb (lt k) = ((nm y past h : Nat) : Int) + 1) ∧ Ch y past ∧ (∀ h, h < S.n → nm y past h < S.n) ∧ ∀ h, h < S.n → run y past (S.n - 1) h = y := by
  obtain ⟨y, past, fl, z⟩ := x.ki k hk
  have hf := z.done hd
  subst hf
  refine ⟨y, past, z.yn, z.na, z.ch, fun h hh => nm_lt (by have := x.inv.n1; omega) z.yn z.pn, fun h hh => run_all z.ch z.yn z.pn hh⟩
/-- So many were handed over, at most. -/
theorem JJ.few {K : List (List UInt8)} {M : Nat} {S : Sd} {sn : Snt} {Mp : Nat → Option (List UInt8)} (x : JJ K M S sn Mp) {i j : Nat} (hi : i < S.n) (hj : j < S.n) (hij : i ≠ j) : (sn i j).length ≤ M := by
  have h1 := x.rs.wt i j hi hj hij
  have h2 := x.rs.le i j hi hj hij
  have h3 := ((x.inv.ho i hi).nu (j + 1) (by have := x.inv.n1; omega)).1
  have h4 : (WT S i j).length = (sn i j).length - AK S i j := by rw [h1, List.length_drop]
  unfold WT AK at h4
  unfold AK at h2
  omega
/-- Bounds of the twenty keys are few. -/
theorem FrL.few {kb : List Bd} (h : FrL kb) (hs : Sh kb) : kb.length ≤ 21 := by
  have hn : (kb.map (·.f)).Nodup := by
    refine List.pairwise_map.2 (hs.srt.imp (fun {a b} hab e => ?_))
    rw [e, less_irrefl] at hab
    cases hab
  have := nodup_len hn (K := [] :: (List.range 20).map lt) (fun x hx => by
    obtain ⟨y, hy, rfl⟩ := List.mem_map.1 hx
    rcases h y hy with e | ⟨k, hk, e⟩
    · rw [e]; exact List.mem_cons_self ..
    · rw [e]; exact List.mem_cons_of_mem _ (List.mem_map_of_mem (List.mem_range.2 hk)))
  simpa using this
/-- Numbers don't grow where nothing is sent anew. -/
theorem Inv.fix {K : List (List UInt8)} {M M1 : Nat} {S : Sd} {sn : Snt} (x : Inv K M S) (r : RS S sn) (fl : ∀ i, i < S.n → FrL (S.ho i).kb) (hs : ∀ i j, i < S.n → j < S.n → i ≠ j → (sn i j).length ≤ M1) (hK : K.length ≤ M1) (hw : S.wy.length ≤ 160 * M1) (h10 : 10 ≤ M1) : Inv K M1 S := by
  have h9 := x.n1.2
  refine ⟨x.n1, fun i hi => ?_, x.tos, fun p hp => ?_, hw, hK⟩
  · have o := x.ho i hi
    refine ⟨o.srt, o.its, o.kv, ?_, fun k hk => ?_, o.wt⟩
    · have := (fl i hi).few (valid_sh.1 o.kv).1
      omega
    · by_cases hx : k = 0 ∨ S.n < k ∨ k = i + 1
      · rw [r.ot i k hi hk hx]
        exact ⟨Nat.zero_le _, Nat.zero_le _, Nat.zero_le _⟩
      · obtain ⟨j, rfl⟩ : ∃ j, k = j + 1 := ⟨k - 1, by omega⟩
        have hj : j < S.n := by omega
        have hij : i ≠ j := by omega
        have h1 := r.wt i j hi hj hij
        have h2 := r.le i j hi hj hij
        have h3 := r.le j i hj hi (Ne.symm hij)
        have h4 := hs i j hi hj hij
        have h5 := hs j i hj hi (Ne.symm hij)
        have h6 : (WT S i j).length = (sn i j).length - AK S i j := by rw [h1, List.length_drop]
        unfold WT AK at h6
        unfold AK at h2
        unfold CM at h3
        exact ⟨by omega, (o.nu (j + 1) hk).2.1, by omega⟩
  · have o := x.wy p hp
    obtain ⟨i, j, hi, hj, hij, _, _, _, g4, g5⟩ := r.wy p hp
    refine ⟨o.fr, o.ds, ⟨o.nu.1, ?_⟩, o.bd⟩
    cases hk : p.ak with
    | true =>
      have h1 := g4 hk
      have h2 := (r.le j i hj hi (Ne.symm hij)).2
      have h3 := hs j i hj hi (Ne.symm hij)
      omega
    | false =>
      have h1 := (g5 hk).1
      have h3 := hs i j hi hj hij
      omega
theorem len_ms (l : List Pk) : l.length ≤ ms l := by
  induction l with
  | nil => simp [ms]
  | cons p l ih =>
    unfold ms at ih ⊢
    simp only [List.map_cons, List.sum_cons, List.length_cons]
    split <;> omega
def hls : Nat → Sd → Sd
  | 0, S => S
  | t + 1, S => healS 1 (hls t S)
theorem hls_next (t : Nat) (S : Sd) : hls (t + 1) S = healS 1 (hls t S) := by rw [hls]
theorem moreN (m t a b c : Nat) (h1 : a + m ≤ b) (h2 : b + m * t ≤ c) : a + m * (t + 1) ≤ c := by rw [Nat.mul_succ, Nat.add_comm (m * t) m, ← Nat.add_assoc]; exact Nat.le_trans (Nat.add_le_add_right h1 _) h2
theorem less12 (a b : Nat) (h1 : b = 0) (h2 : a + 1200 ≤ b) : False := by omega
theorem enough12 (t a b q : Nat) (h1 : a + 1200 * t ≤ b) (h2 : b ≤ 2 * q) (h3 : q / 500 + 10 ≤ t) : False := by omega
theorem le12 (a b c : Nat) (h1 : a + b ≤ c) : a ≤ c := by omega
/-- How many Heals are enough. -/
theorem JJ.heals {K : List (List UInt8)} {M : Nat} {sn : Snt} {Mp : Nat → Option (List UInt8)} {S0 : Sd} (h5 : S0.n ≤ 5) (h10 : 10 ≤ M) (x0 : JJ K M S0 sn Mp) (hw : ms S0.wy ≤ 160 * M) : ∀ t, JJ K M (hls t S0) sn Mp ∧ (hls t S0).n = S0.n ∧ ms (hls t S0).wy ≤ ms S0.wy ∧ (((hls t S0).wy = [] ∧ Dlv (hls t S0) sn) ∨ ms (hls t S0).wy + 1200 * t ≤ ms S0.wy)
  | 0 => ⟨x0, rfl, Nat.le_refl _, .inr (Nat.le_refl _)⟩
  | t + 1 => by
    obtain ⟨x, hn, hle, m⟩ := JJ.heals h5 h10 x0 hw t
    have y := x.heal
    have hm := (x.inv.heal_ms x.rs (by omega)).2
    rw [hls_next]
    have hn1 : (healS 1 (hls t S0)).n = S0.n := (heal_n 1 _).trans hn
    have hms : ms (healS 1 (hls t S0)).wy ≤ ms S0.wy := by
      rcases hm with hm | hm
      · rw [hm.1]; exact Nat.zero_le _
      · exact Nat.le_trans (le12 _ _ _ hm) hle
    have hfix : Inv K M (healS 1 (hls t S0)) := y.inv.fix y.rs y.fl (fun i j hi hj hij => x.few (by rw [hn, ← hn1]; exact hi) (by rw [hn, ← hn1]; exact hj) hij) x.inv.kl (Nat.le_trans (len_ms _) (Nat.le_trans hms hw)) h10
    refine ⟨y.up hfix, hn1, hms, ?_⟩
    rcases hm with hm | hm
    · exact .inl hm
    · rcases m with m | m
      · rw [m.1] at hm
        exact (less12 _ _ rfl hm).elim
      · exact .inr (moreN 1200 t _ _ _ hm m)
theorem JJ.healed {K : List (List UInt8)} {M t : Nat} {sn : Snt} {Mp : Nat → Option (List UInt8)} {S0 : Sd} (h5 : S0.n ≤ 5) (h10 : 10 ≤ M) (x0 : JJ K M S0 sn Mp) (hw : ms S0.wy ≤ 160 * M) (ht : S0.wy.length / 500 + 10 ≤ t) : Dlv (hls t S0) sn := by
  rcases (JJ.heals h5 h10 x0 hw t).2.2.2 with m | m
  · exact m.2
  · exact (enough12 _ _ _ _ m (ms_le S0.wy) ht).elim
end Go.Proofs.Ytpfgnhockfofhaa
