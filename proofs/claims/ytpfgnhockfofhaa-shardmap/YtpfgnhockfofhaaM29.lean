/-
  Joined: WSk5.
-/
import Derived.Test.YtpfgnhockfofhaaM26
import Derived.Test.YtpfgnhockfofhaaM27
import Derived.Test.YtpfgnhockfofhaaM28
/-
  Shared by many: a round of the law's loop, plainly, and what lies where.
-/
namespace Go.Proofs.Ytpfgnhockfofhaa
open Go.RowKit

/-! plainly -/
def st1 : Sp := ⟨1, 1, 0, 0, [97], [], [102, 105, 114, 115, 116]⟩
def st2 : Sp := ⟨4, 1, 2, 0, [97], [99], []⟩
/-- The step of a round: M rounds are behind it. -/
structure Tam (M n : Nat) (s : Sp) : Prop where
  kd : 1 ≤ s.kd ∧ s.kd ≤ 8
  hs : ∃ h, h < n ∧ s.hs = (h : Int) + 1
  ot : s.kd = 4 → ∃ h, h < n ∧ s.ot = (h : Int) + 1
  oi : 0 ≤ s.ot ∧ s.ot ≤ 9
  ky : ∃ k, k < 20 ∧ s.ky = lt k
  up : isU s.up
  vl : s.vl.length ≤ 9
  m0 : M = 0 → s = st1
  m1 : M = 1 → s = st2
theorem Tame.tam {M n : Nat} {s : Sp} (h : Tame n s) (hn : n ≤ 9) (hM : 2 ≤ M) : Tam M n s :=
  ⟨h.kd, h.hs, fun _ => h.ot, by obtain ⟨o, h1, h2⟩ := h.ot; omega, h.ky, h.up, h.vl, fun e => by omega, fun e => by omega⟩
theorem tam0 {n : Nat} (h : 2 ≤ n) : Tam 0 n st1 := ⟨by decide, ⟨0, by omega, rfl⟩, fun e => by exact absurd e (by decide), by decide, ⟨0, by decide, rfl⟩, .inl rfl, by decide, fun _ => rfl, fun e => by cases e⟩
theorem tam1 {n : Nat} (h : 2 ≤ n) : Tam 1 n st2 := ⟨by decide, ⟨0, by omega, rfl⟩, fun _ => ⟨1, by omega, rfl⟩, by decide, ⟨0, by decide, rfl⟩, .inr ⟨2, by decide, rfl⟩, by decide, fun e => (by cases e), fun _ => rfl⟩
theorem Tam.may {M n : Nat} {s : Sp} (h : Tam M n s) : mayS s = true := by
  obtain ⟨k, _, hk⟩ := h.ky
  have h1 : s.ky.length = 1 := by rw [hk]; rfl
  have h2 := h.up.len
  have h3 := h.vl
  have h4 : s.ky.isEmpty = false := by rw [hk]; rfl
  unfold mayS
  rw [h4, decide_eq_true (show s.ky.length ≤ 16 by omega), decide_eq_true (show s.up.length ≤ 16 by omega), decide_eq_true (show s.vl.length ≤ 64 by omega)]
  rfl
theorem first0 {n : Nat} (h : 2 ≤ n ∧ n ≤ 5) : (doS st1 (sd0 n)).1.er = 0 ∧ (doS st1 (sd0 n)).1.ho = 1 := by
  obtain ⟨h1, h2⟩ := h
  obtain rfl | rfl | rfl | rfl : n = 2 ∨ n = 3 ∨ n = 4 ∨ n = 5 := by omega
  all_goals exact ⟨rfl, rfl⟩
theorem first1 {n : Nat} (h : 2 ≤ n ∧ n ≤ 5) : (doS st2 (doS st1 (sd0 n)).2).1.er = 0 ∧ (doS st2 (doS st1 (sd0 n)).2).1.ho = 1 := by
  obtain ⟨h1, h2⟩ := h
  obtain rfl | rfl | rfl | rfl : n = 2 ∨ n = 3 ∨ n = 4 ∨ n = 5 := by omega
  all_goals exact ⟨rfl, rfl⟩
theorem ow_is {S : Sd} {k h : Nat} (hh : h < S.n) (hu : ∀ a b, a < S.n → b < S.n → hoR 0 (S.ho a).kb (lt k) = (a : Int) + 1 → hoR 0 (S.ho b).kb (lt k) = (b : Int) + 1 → a = b) : owF S k = (h : Int) + 1 ↔ hoR 0 (S.ho h).kb (lt k) = (h : Int) + 1 := by
  constructor
  · intro e
    by_cases hx : ∃ a, a < S.n ∧ hoR 0 (S.ho a).kb (lt k) = (a : Int) + 1
    · obtain ⟨a, ha, hx⟩ := hx
      have := ow_own ha hx (fun c hc hcx => hu c a hc ha hcx hx)
      have e2 : (a : Int) + 1 = (h : Int) + 1 := by rw [← this]; exact e
      obtain rfl : a = h := by omega
      exact hx
    · have := ow_zero (S := S) (k := k) (m := S.n) (fun a ha e => hx ⟨a, ha, e⟩)
      unfold owF at e
      omega
  · exact fun e => ow_own hh e (fun a ha hx => hu a h ha hh hx e)
/-- Who has all of a range by the twenty keys may hand it over. -/
theorem JJ.may {K : List (List UInt8)} {M : Nat} {S : Sd} {sn : Snt} {Mp : Nat → Option (List UInt8)} (x : JJ K M S sn Mp) {h : Nat} (hh : h < S.n) {fr up : List UInt8} (hf : isL fr) : hasF (owF S) fr up ((h : Int) + 1) = hasB (S.ho h).kb fr up ((h : Int) + 1) := by
  rw [Bool.eq_iff_iff, hasF_iff, has_iff (x.sh hh) (x.fl h hh) hf]
  have hk : ∀ k, k < 20 → (owF S k = (h : Int) + 1 ↔ hoR 0 (S.ho h).kb (lt k) = (h : Int) + 1) := fun k hk => ow_is hh (fun a b ha hb h1 h2 => x.one hk ha hb h1 h2)
  constructor
  · rintro ⟨⟨k, h1, h2⟩, h3⟩
    refine ⟨?_, fun j hj hi => (hk j hj).1 (h3 j hj hi)⟩
    unfold inR at h2
    unfold someR
    simp only [Bool.and_eq_true, Bool.not_eq_true', Bool.or_eq_true] at h2 ⊢
    exact h2.2.imp id (fun e => le_less_trans h2.1 e)
  · rintro ⟨h1, h3⟩
    obtain ⟨k, hk2, rfl⟩ := hf
    exact ⟨⟨k, hk2, by rw [in_self]; exact h1⟩, fun j hj hi => (hk j hj).2 (h3 j hj hi)⟩
/-- What a round's step has answered and left. -/
structure Out (K : List (List UInt8)) (M : Nat) (S : Sd) (sn : Snt) (Mp : Nat → Option (List UInt8)) (s : Sp) (kk : Nat) (a : An) (S' : Sd) (sn' : Snt) (Mp' : Nat → Option (List UInt8)) : Prop where
  jj : JJ (s.ky :: K) (M + 1) S' sn' Mp'
  n : S'.n = S.n
  ln : ∀ i j : Nat, (sn' i j).length = (sn i j).length + if s.kd = 4 ∧ s.hs ≠ s.ot ∧ s.hs = (i : Int) + 1 ∧ s.ot = (j : Int) + 1 ∧ a.er = 0 then 1 else 0
  mp : Mp' = if s.kd ≤ 3 ∧ a.ho = s.hs then upd Mp kk (newM s.kd s.vl (Mp kk)) else Mp
  ask : s.kd ≤ 3 → a.ho = s.hs → a.er = 0 ∧ a.rk = (if s.kd = 1 ∨ (Mp kk).isSome = true then 1 else 2) ∧ (s.kd = 2 → a.rv = (Mp kk).getD [])
  mv : s.kd = 4 → s.hs ≠ s.ot → ∃ h o : Nat, h < S.n ∧ o < S.n ∧ h ≠ o ∧ s.hs = (h : Int) + 1 ∧ s.ot = (o : Int) + 1 ∧ ((hasF (owF S) s.ky s.up s.hs = true ∧ (a.er = 0 ∨ (a.er = 4 ∧ 16 ≤ (sn h o).length))) ∨ (hasF (owF S) s.ky s.up s.hs = false ∧ a.er = 14))
theorem do_n (s : Sp) (S : Sd) : (doS s S).2.n = S.n := by
  unfold doS
  split
  · exact carry_n _ _ _
  · repeat' split
    all_goals rfl
theorem JJ.out {K : List (List UInt8)} {M : Nat} {S : Sd} {sn : Snt} {Mp : Nat → Option (List UInt8)} (x : JJ K M S sn Mp) {s : Sp} {kk : Nat} (ht : Tam M S.n s) (hkk : kk < 20) (hky : s.ky = lt kk) : ∃ sn' Mp', Out K M S sn Mp s kk (doS s S).1 (doS s S).2 sn' Mp' := by
  obtain ⟨h, hh, hs⟩ := ht.hs
  have hn := do_n s S
  by_cases h3 : s.kd ≤ 3
  · obtain ⟨a1, a2, a3, a4⟩ := x.ask (s := s) (h := h) (k := kk) ⟨ht.kd.1, h3⟩ hh hs ht.may hkk hky
    by_cases ho : (doS s S).1.ho = s.hs
    · obtain ⟨b1, b2, b3⟩ := a4 ho
      exact ⟨sn, _, b3, hn, fun i j => by rw [if_neg (fun e => by omega)]; rfl, by rw [if_pos ⟨h3, ho⟩], fun _ _ => ⟨a1, b1, b2⟩, fun e => by omega⟩
    · exact ⟨sn, Mp, a3 ho, hn, fun i j => by rw [if_neg (fun e => by omega)]; rfl, by rw [if_neg (fun e => ho e.2)], fun _ e => absurd e ho, fun e => by omega⟩
  · by_cases h4 : s.kd = 4 ∧ s.hs ≠ s.ot
    · obtain ⟨o, hoo, hot⟩ := ht.ot h4.1
      have hne : h ≠ o := fun e => h4.2 (by rw [hs, hot, e])
      have hl : isL s.ky := ⟨kk, hkk, hky⟩
      have p := x.move h4.1 hh hs hoo hot hne ht.may hl ht.up
      obtain ⟨sn', j', l'⟩ := p.st
      refine ⟨sn', Mp, j', hn, fun i j => ?_, by rw [if_neg (fun e => h3 e.1)], fun e => absurd e h3, fun _ _ => ⟨h, o, hh, hoo, hne, hs, hot, ?_⟩⟩
      · rw [l']
        congr 1
        by_cases e : i = h ∧ j = o ∧ (doS s S).1.er = 0
        · rw [if_pos e, if_pos ⟨h4.1, h4.2, by rw [hs, e.1], by rw [hot, e.2.1], e.2.2⟩]
        · rw [if_neg e, if_neg (fun z => e ⟨by omega, by omega, z.2.2.2.2⟩)]
      · have hm := x.may hh (fr := s.ky) (up := s.up) hl
        rw [hs, hm]
        exact p.er
    · exact ⟨sn, Mp, x.other (by omega) hh hs (fun e => by
        by_cases e2 : s.hs = s.ot
        · exact e2.symm
        · exact absurd ⟨e, e2⟩ h4), hn, fun i j => by rw [if_neg (fun e => h4 ⟨e.1, e.2.1⟩)]; rfl, by rw [if_neg (fun e => h3 e.1)], fun e => absurd e h3, fun e1 e2 => absurd ⟨e1, e2⟩ h4⟩

/-! in memory -/
/-- The shards, apart from some blocks. -/
def MS (w0 w : World) (b : Nat) (S : Sd) (Q : Nat → Prop) : Prop := ∃ G : Nat → Prop, ShM G w b S ∧ ∀ g, G g → w0.heap.size ≤ g ∧ g < w.heap.size ∧ ¬ Q g
def NotQ (w0 : World) (Q : Nat → Prop) : Nat → Obj → Prop := fun q _ => w0.heap.size ≤ q ∧ ¬ Q q
theorem MS.kept {w0 w w' : World} {b : Nat} {S : Sd} {Q : Nat → Prop} (h : MS w0 w b S Q) (k : Kept Nil w w') : MS w0 w' b S Q := by
  obtain ⟨G, x, hG⟩ := h
  exact ⟨G, x.keptX k (fun _ _ _ e => e), fun g hg => ⟨(hG g hg).1, Nat.lt_of_lt_of_le (hG g hg).2.1 k.size, (hG g hg).2.2⟩⟩
/-- One more block is apart. -/
theorem MS.add {w0 w w' : World} {b : Nat} {S : Sd} {Q : Nat → Prop} (h : MS w0 w b S Q) (k : Kept Nil w w') {B : Nat} (hB : w.heap.size ≤ B) : MS w0 w' b S (fun q => Q q ∨ q = B) := by
  obtain ⟨G, x, hG⟩ := h
  exact ⟨G, x.keptX k (fun _ _ _ e => e), fun g hg => ⟨(hG g hg).1, Nat.lt_of_lt_of_le (hG g hg).2.1 k.size, fun e => by
    rcases e with e | e
    · exact (hG g hg).2.2 e
    · have := (hG g hg).2.1; omega⟩⟩
theorem MS.sub {w0 w : World} {b : Nat} {S : Sd} {Q Q' : Nat → Prop} (h : MS w0 w b S Q) (hs : ∀ q, Q' q → Q q) : MS w0 w b S Q' := by
  obtain ⟨G, x, hG⟩ := h
  exact ⟨G, x, fun g hg => ⟨(hG g hg).1, (hG g hg).2.1, fun e => (hG g hg).2.2 (hs g e)⟩⟩
/-- A block that is apart is written. -/
theorem MS.one {w0 w w' : World} {b : Nat} {S : Sd} {Q : Nat → Prop} (h : MS w0 w b S Q) {B : Nat} (k : Kept (One B) w w') (hB : Q B) : MS w0 w' b S Q := by
  obtain ⟨G, x, hG⟩ := h
  exact ⟨G, x.keptX k (fun q _ hq e => by have e : q = B := e; subst e; exact (hG q hq).2.2 hB), fun g hg => ⟨(hG g hg).1, Nat.lt_of_lt_of_le (hG g hg).2.1 k.size, (hG g hg).2.2⟩⟩
theorem MS.post {w0 w w' : World} {b : Nat} {S' : Sd} {Q : Nat → Prop} {G : Nat → Prop} (hw : w0.heap.size ≤ w.heap.size) (hQ : ∀ q, Q q → q < w.heap.size) (hG : ∀ g, G g → w0.heap.size ≤ g ∧ g < w.heap.size ∧ ¬ Q g) (x : ShM (GN G w) w' b S') (k : Kept (TG G) w w') : MS w0 w' b S' Q ∧ Kept (NotQ w0 Q) w w' := by
  refine ⟨⟨_, x.lt, fun g hg => ⟨?_, hg.2, fun e => ?_⟩⟩, k.mono (fun q _ e => ⟨(hG q e).1, (hG q e).2.2⟩)⟩
  · rcases hg.1 with hg | hg
    · exact (hG g hg).1
    · omega
  · rcases hg.1 with hg | hg
    · exact (hG g hg).2.2 e
    · have := hQ g e; omega
theorem ms_do (K : List (List UInt8)) (M b : Nat) (w0 w : World) (S : Sd) (s : Sp) (Q : Nat → Prop) (hw : w0.heap.size ≤ w.heap.size) (hQ : ∀ q, Q q → q < w.heap.size) (h : MS w0 w b S Q) (inv : Inv K M S) (hM : M ≤ 1900000) (hle : s.ky.length ≤ 1000000000000 ∧ s.up.length ≤ 1000000000000 ∧ s.vl.length ≤ 1000000000000) :
    Calls Try.prog 27 #[.pointer (some ⟨b, 0, none⟩), .agg (stC s)] w fun e w' => e = .returned (.agg (anC (doS s S).1)) ∧ MS w0 w' b (doS s S).2 Q ∧ Kept (NotQ w0 Q) w w' := by
  obtain ⟨G, ⟨Gs, hb, ch, hs, aw, cw, x, hx⟩, hG⟩ := h
  refine (do_any K M Gs b hb ch cw hs aw S s w x inv hM hle).mono ?_
  rintro e w' ⟨he, hp⟩
  obtain ⟨x', k⟩ := hp.m hx
  exact ⟨he, MS.post hw hQ hG x' k⟩
theorem ms_heal (K : List (List UInt8)) (M b : Nat) (w0 w : World) (S : Sd) (Q : Nat → Prop) (hw : w0.heap.size ≤ w.heap.size) (hQ : ∀ q, Q q → q < w.heap.size) (h : MS w0 w b S Q) (inv : Inv K M S) (hM : M + 2009 ≤ 1900000) :
    Calls Try.prog 29 #[.pointer (some ⟨b, 0, none⟩), .int .i64 1] w fun e w' => e = .returned (.tuple #[]) ∧ MS w0 w' b (healS 1 S) Q ∧ Kept (NotQ w0 Q) w w' := by
  obtain ⟨G, ⟨Gs, hb, ch, hs, aw, cw, x, hx⟩, hG⟩ := h
  refine (heal_any K M 1 1 Gs b hb ch cw hs aw S w x inv (by decide) (by omega)).mono ?_
  rintro e w' ⟨he, hp⟩
  obtain ⟨x', k⟩ := hp.m hx
  exact ⟨he, MS.post hw hQ hG x' k⟩
theorem ms_owners (K : List (List UInt8)) (M b : Nat) (w0 w : World) (S : Sd) (sn : Snt) (Mp : Nat → Option (List UInt8)) (Q : Nat → Prop) (h : MS w0 w b S Q) (jj : JJ K M S sn Mp) (hM : M ≤ 1900000) :
    Calls Try.prog 24 #[.pointer (some ⟨b, 0, none⟩), .int .i64 S.n] w fun e w' => e = .returned (.tuple #[.agg (arrI (owF S)), .bool true]) ∧ Kept Nil w w' := by
  obtain ⟨G, ⟨Gs, hb, ch, hs, aw, cw, x, hx⟩, hG⟩ := h
  exact owners_any K M Gs b hb ch cw hs aw S sn Mp w x jj hM
theorem ms_way (b : Nat) (w0 w : World) (S : Sd) (Q : Nat → Prop) (h : MS w0 w b S Q) :
    Calls Try.prog 28 #[.pointer (some ⟨b, 0, none⟩)] w fun e w' => e = .returned (.int .i64 S.wy.length) ∧ w' = w := by
  obtain ⟨G, ⟨Gs, hb, ch, hs, aw, cw, x, hx⟩, hG⟩ := h
  exact way_any S.n b hb ch S.wy.length cw aw w x.blk
/-- The law's own arrays. -/
def arrS (Mp : Nat → Option (List UInt8)) : Array Value := ((List.range 20).map fun k => Value.string (bs ((Mp k).getD []))).toArray
def arrB (Mp : Nat → Option (List UInt8)) : Array Value := ((List.range 20).map fun k => Value.bool (Mp k).isSome).toArray
theorem arrS_at (Mp : Nat → Option (List UInt8)) {k : Nat} (h : k < 20) : (arrS Mp)[k]? = some (.string (bs ((Mp k).getD []))) := by unfold arrS; simp [h]
theorem arrB_at (Mp : Nat → Option (List UInt8)) {k : Nat} (h : k < 20) : (arrB Mp)[k]? = some (.bool (Mp k).isSome) := by unfold arrB; simp [h]
theorem arrS_size (Mp : Nat → Option (List UInt8)) : (arrS Mp).size = 20 := by simp [arrS]
theorem arrB_size (Mp : Nat → Option (List UInt8)) : (arrB Mp).size = 20 := by simp [arrB]
theorem arrS_set (Mp : Nat → Option (List UInt8)) {k : Nat} (h : k < 20) (o : Option (List UInt8)) : (arrS Mp).setIfInBounds k (.string (bs (o.getD []))) = arrS (upd Mp k o) := by
  apply Array.ext_getElem?
  intro j
  rw [Array.getElem?_setIfInBounds]
  by_cases e : k = j
  · subst e
    rw [if_pos rfl, if_pos (by rw [arrS_size]; exact h), arrS_at _ h, upd_self]
  · rw [if_neg e]
    by_cases hj : j < 20
    · rw [arrS_at _ hj, arrS_at _ hj, upd_ne _ _ (Ne.symm e)]
    · rw [Array.getElem?_eq_none (by rw [arrS_size]; omega), Array.getElem?_eq_none (by rw [arrS_size]; omega)]
theorem arrB_set (Mp : Nat → Option (List UInt8)) {k : Nat} (h : k < 20) (o : Option (List UInt8)) : (arrB Mp).setIfInBounds k (.bool o.isSome) = arrB (upd Mp k o) := by
  apply Array.ext_getElem?
  intro j
  rw [Array.getElem?_setIfInBounds]
  by_cases e : k = j
  · subst e
    rw [if_pos rfl, if_pos (by rw [arrB_size]; exact h), arrB_at _ h, upd_self]
  · rw [if_neg e]
    by_cases hj : j < 20
    · rw [arrB_at _ hj, arrB_at _ hj, upd_ne _ _ (Ne.symm e)]
    · rw [Array.getElem?_eq_none (by rw [arrB_size]; omega), Array.getElem?_eq_none (by rw [arrB_size]; omega)]
/-- How often was handed over. -/
def GvA (ln : Nat → Nat → Nat) (n M : Nat) (cs : Array Value) : Prop := cs.size = 64 ∧ ∀ h o, h < n → o < n → h ≠ o → cs[8 * (h + 1) + (o + 1)]? = some (.int .i64 (ln h o)) ∧ ln h o ≤ M
structure AR (w : World) (V T Gv L : Nat) (Mp : Nat → Option (List UInt8)) (ln : Nat → Nat → Nat) (n M : Nat) (f : Nat → Int) : Prop where
  v : w.heap[V]? = some (.cells (arrS Mp) 67 (0, 0))
  t : w.heap[T]? = some (.cells (arrB Mp) 68 (0, 0))
  g : ∃ cs, w.heap[Gv]? = some (.cells cs 69 (0, 0)) ∧ GvA ln n M cs
  l : RowI w L f
def Q4 (V T Gv L : Nat) : Nat → Prop := fun q => q = V ∨ q = T ∨ q = Gv ∨ q = L
theorem AR.kept {X : Nat → Obj → Prop} {w w' : World} {V T Gv L : Nat} {Mp : Nat → Option (List UInt8)} {ln : Nat → Nat → Nat} {n M : Nat} {f : Nat → Int} (h : AR w V T Gv L Mp ln n M f) (k : Kept X w w') (hX : ∀ q o, Q4 V T Gv L q → ¬ X q o) : AR w' V T Gv L Mp ln n M f := by
  obtain ⟨cs, g1, g2⟩ := h.g
  exact ⟨k.block _ _ h.v (hX _ _ (.inl rfl)), k.block _ _ h.t (hX _ _ (.inr (.inl rfl))), ⟨cs, k.block _ _ g1 (hX _ _ (.inr (.inr (.inl rfl)))), g2⟩, k.block _ _ h.l (hX _ _ (.inr (.inr (.inr rfl))))⟩
theorem AR.lt {w : World} {V T Gv L : Nat} {Mp : Nat → Option (List UInt8)} {ln : Nat → Nat → Nat} {n M : Nat} {f : Nat → Int} (h : AR w V T Gv L Mp ln n M f) : ∀ q, Q4 V T Gv L q → q < w.heap.size := by
  obtain ⟨cs, g1, _⟩ := h.g
  rintro q (rfl | rfl | rfl | rfl)
  · exact lt_of_block h.v
  · exact lt_of_block h.t
  · exact lt_of_block g1
  · exact lt_of_block h.l
theorem AR.ne {w : World} {V T Gv L : Nat} {Mp : Nat → Option (List UInt8)} {ln : Nat → Nat → Nat} {n M : Nat} {f : Nat → Int} (h : AR w V T Gv L Mp ln n M f) {B : Nat} {cs : Array Value} {t : TypeId} (hb : w.heap[B]? = some (.cells cs t (0, 0))) (ht : t ≠ 67 ∧ t ≠ 68 ∧ t ≠ 69 ∧ t ≠ 70) : ¬ Q4 V T Gv L B := by
  obtain ⟨c2, g1, _⟩ := h.g
  rintro (rfl | rfl | rfl | rfl)
  · rw [h.v] at hb; cases hb; exact ht.1 rfl
  · rw [h.t] at hb; cases hb; exact ht.2.1 rfl
  · rw [g1] at hb; cases hb; exact ht.2.2.1 rfl
  · have := h.l; unfold RowI at this; rw [this] at hb; cases hb; exact ht.2.2.2 rfl
end Go.Proofs.Ytpfgnhockfofhaa
