/-
  Joined: WSm3, WSm4.
-/
import Derived.Test.YtpfgnhockfofhaaM16
/-
  Shared by many, plainly: which items a host has; whom hosts name.
-/
namespace Go.Proofs.Ytpfgnhockfofhaa
open Go.RowKit

/-! items -/
theorem Srt.uniq {ps : List Pr} (h : Srt ps) {x y : Pr} (hx : x ∈ ps) (hy : y ∈ ps) (e : x.k = y.k) : x = y := by
  obtain ⟨i, hi, rfl⟩ := List.getElem_of_mem hx
  obtain ⟨j, hj, rfl⟩ := List.getElem_of_mem hy
  by_cases h1 : i < j
  · have := List.pairwise_iff_getElem.1 h i j hi hj h1
    rw [e, less_irrefl] at this; cases this
  · by_cases h2 : j < i
    · have := List.pairwise_iff_getElem.1 h j i hj hi h2
      rw [e, less_irrefl] at this; cases this
    · obtain rfl : i = j := by omega
      rfl
theorem mem_setI {x y : Pr} {ps : List Pr} (h : Srt ps) : y ∈ setI x ps ↔ y = x ∨ (y ∈ ps ∧ y.k ≠ x.k) := by
  unfold setI
  split
  · rename_i ht
    obtain ⟨hl, hk⟩ := there_get ht
    constructor
    · intro hy
      obtain ⟨j, hj, rfl⟩ := List.getElem_of_mem hy
      rw [List.length_set] at hj
      rw [List.getElem_set]
      by_cases e : lowP x.k ps = j
      · rw [if_pos e]; exact .inl rfl
      · rw [if_neg e]
        refine .inr ⟨List.getElem_mem hj, fun e2 => e ?_⟩
        have := h.uniq (List.getElem_mem hl) (List.getElem_mem hj) (by rw [hk, e2])
        by_cases h1 : lowP x.k ps < j
        · have h3 := List.pairwise_iff_getElem.1 h _ _ hl hj h1
          rw [this, less_irrefl] at h3; cases h3
        · by_cases h2 : j < lowP x.k ps
          · have h3 := List.pairwise_iff_getElem.1 h _ _ hj hl h2
            rw [this, less_irrefl] at h3; cases h3
          · omega
    · rintro (rfl | ⟨hy, hne⟩)
      · exact List.mem_set hl _
      · obtain ⟨j, hj, rfl⟩ := List.getElem_of_mem hy
        have e : lowP x.k ps ≠ j := fun e => hne (by subst e; exact hk)
        have : (ps.set (lowP x.k ps) x)[j]'(by rw [List.length_set]; exact hj) = ps[j] := by rw [List.getElem_set, if_neg e]
        rw [← this]
        exact List.getElem_mem _
  · rename_i ht
    have hnt := not_there h (by simpa using ht)
    unfold insI
    constructor
    · intro hy
      rcases List.mem_append.1 hy with hy | hy
      · have := List.mem_of_mem_take hy; exact .inr ⟨this, hnt _ this⟩
      · rcases List.mem_cons.1 hy with hy | hy
        · exact .inl hy
        · have := List.mem_of_mem_drop hy; exact .inr ⟨this, hnt _ this⟩
    · rintro (rfl | ⟨hy, _⟩)
      · exact List.mem_append_right _ (List.mem_cons_self ..)
      · rw [← List.take_append_drop (lowP x.k ps) ps] at hy
        rcases List.mem_append.1 hy with hy | hy
        · exact List.mem_append_left _ hy
        · exact List.mem_append_right _ (List.mem_cons_of_mem _ hy)
theorem mem_delOne {key : List UInt8} {y : Pr} {ps : List Pr} (h : Srt ps) (ht : isThere key ps = true) : y ∈ delI (lowP key ps) (lowP key ps + 1) ps ↔ y ∈ ps ∧ y.k ≠ key := by
  obtain ⟨hl, hk⟩ := there_get ht
  have hsp : ps.take (lowP key ps) ++ ps[lowP key ps] :: ps.drop (lowP key ps + 1) = ps := by
    rw [List.getElem_cons_drop]
    exact List.take_append_drop _ _
  have hs2 : Srt (ps.take (lowP key ps) ++ ps[lowP key ps] :: ps.drop (lowP key ps + 1)) := by rw [hsp]; exact h
  obtain ⟨_, s2, s3⟩ := List.pairwise_append.1 hs2
  obtain ⟨s4, _⟩ := List.pairwise_cons.1 s2
  unfold delI
  constructor
  · intro hy
    rcases List.mem_append.1 hy with hy | hy
    · refine ⟨List.mem_of_mem_take hy, fun e => ?_⟩
      have := s3 _ hy _ (List.mem_cons_self ..)
      rw [hk, e, less_irrefl] at this; cases this
    · refine ⟨List.mem_of_mem_drop hy, fun e => ?_⟩
      have := s4 _ hy
      rw [hk, e, less_irrefl] at this; cases this
  · rintro ⟨hy, hne⟩
    rw [← hsp] at hy
    rcases List.mem_append.1 hy with hy | hy
    · exact List.mem_append_left _ hy
    · rcases List.mem_cons.1 hy with rfl | hy
      · exact absurd hk hne
      · exact List.mem_append_right _ hy
theorem three_parts {fr up : List UInt8} {ps : List Pr} (h : Srt ps) (hs : someR fr up = true) : ps.take (lowP fr ps) ++ (midP fr up ps ++ ps.drop (endP up ps)) = ps := by
  have hle := first_end h hs
  unfold midP
  have : ps.drop (endP up ps) = (ps.drop (lowP fr ps)).drop (endP up ps - lowP fr ps) := by rw [List.drop_drop]; congr 1; omega
  rw [this, List.take_append_drop, List.take_append_drop]
theorem end_out {fr up : List UInt8} {ps : List Pr} (h : Srt ps) {y : Pr} (hy : y ∈ ps.drop (endP up ps)) : inR y.k fr up = false := by
  unfold endP at hy
  split at hy
  · rw [List.drop_length] at hy; cases hy
  · rename_i hu
    have h2 := drop_low h hy
    have he : up.isEmpty = false := by cases up with | nil => exact absurd rfl hu | cons x t => rfl
    unfold inR
    rw [h2, he]
    simp
theorem first_out {fr up : List UInt8} {ps : List Pr} {y : Pr} (hy : y ∈ ps.take (lowP fr ps)) : inR y.k fr up = false := by
  unfold inR
  rw [take_low hy]
  rfl
theorem mem_mid {fr up : List UInt8} {ps : List Pr} (h : Srt ps) (hs : someR fr up = true) {y : Pr} : y ∈ midP fr up ps ↔ y ∈ ps ∧ inR y.k fr up = true := by
  constructor
  · exact fun hy => ⟨mid_mem hy, mid_in h hy⟩
  · rintro ⟨hy, hi⟩
    rw [← three_parts h hs] at hy
    rcases List.mem_append.1 hy with hy | hy
    · rw [first_out hy] at hi; cases hi
    · rcases List.mem_append.1 hy with hy | hy
      · exact hy
      · rw [end_out h hy] at hi; cases hi
theorem mem_rest {fr up : List UInt8} {ps : List Pr} (h : Srt ps) (hs : someR fr up = true) {y : Pr} : y ∈ delI (lowP fr ps) (endP up ps) ps ↔ y ∈ ps ∧ inR y.k fr up = false := by
  unfold delI
  constructor
  · intro hy
    rcases List.mem_append.1 hy with hy | hy
    · exact ⟨List.mem_of_mem_take hy, first_out hy⟩
    · exact ⟨List.mem_of_mem_drop hy, end_out h hy⟩
  · rintro ⟨hy, hi⟩
    rw [← three_parts h hs] at hy
    rcases List.mem_append.1 hy with hy | hy
    · exact List.mem_append_left _ hy
    · rcases List.mem_append.1 hy with hy | hy
      · rw [mid_in h hy] at hi; cases hi
      · exact List.mem_append_right _ hy
theorem mem_setIs : ∀ {l ps : List Pr} {y : Pr}, Srt ps → Srt l → (y ∈ setIs l ps ↔ y ∈ l ∨ (y ∈ ps ∧ ∀ x ∈ l, y.k ≠ x.k))
  | [], ps, y, _, _ => by
    show y ∈ ps ↔ _
    constructor
    · exact fun h => .inr ⟨h, fun x hx => by cases hx⟩
    · rintro (h | h)
      · cases h
      · exact h.1
  | x :: t, ps, y, h, hl => by
    obtain ⟨h1, h2⟩ := List.pairwise_cons.1 hl
    show y ∈ setIs t (setI x ps) ↔ _
    rw [mem_setIs (setI_srt h) h2, mem_setI h]
    constructor
    · rintro (hy | ⟨rfl | ⟨hy, hne⟩, ht⟩)
      · exact .inl (List.mem_cons_of_mem _ hy)
      · exact .inl (List.mem_cons_self ..)
      · refine .inr ⟨hy, fun z hz => ?_⟩
        rcases List.mem_cons.1 hz with rfl | hz
        · exact hne
        · exact ht z hz
    · rintro (hy | ⟨hy, ht⟩)
      · rcases List.mem_cons.1 hy with rfl | hy
        · refine .inr ⟨.inl rfl, fun z hz e => ?_⟩
          have := h1 z hz
          rw [e, less_irrefl] at this; cases this
        · exact .inl hy
      · exact .inr ⟨.inr ⟨hy, ht x (List.mem_cons_self ..)⟩, fun z hz => ht z (List.mem_cons_of_mem _ hz)⟩
/-- Of a key a row has this, or nothing. -/
def Has (key : List UInt8) (l : List Pr) : Option (List UInt8) → Prop
  | none => ∀ x ∈ l, x.k ≠ key
  | some v => ∃ x ∈ l, x.k = key ∧ x.v = v
theorem Has.of {key : List UInt8} {l l' : List Pr} (h : ∀ x, x.k = key → (x ∈ l' ↔ x ∈ l)) : ∀ {o : Option (List UInt8)}, Has key l o → Has key l' o
  | none, x => fun y hy e => x y ((h y e).1 hy) e
  | some _, ⟨x, hx, e, ev⟩ => ⟨x, (h x e).2 hx, e, ev⟩
theorem Has.there {key : List UInt8} {l : List Pr} (hs : Srt l) {o : Option (List UInt8)} (h : Has key l o) : isThere key l = o.isSome := by
  cases ht : isThere key l with
  | true =>
    obtain ⟨hl, hk⟩ := there_get ht
    cases o with
    | none => exact absurd hk (h _ (List.getElem_mem hl))
    | some v => rfl
  | false =>
    have := not_there hs ht
    cases o with
    | none => rfl
    | some v => obtain ⟨x, hx, e, _⟩ := h; exact absurd e (this x hx)
theorem Has.val {key : List UInt8} {l : List Pr} (hs : Srt l) {v : List UInt8} (h : Has key l (some v)) : (match l[lowP key l]? with | some x => x.v | none => []) = v := by
  have ht := h.there hs
  obtain ⟨hl, hk⟩ := there_get ht
  obtain ⟨x, hx, e, ev⟩ := h
  rw [List.getElem?_eq_getElem hl]
  show l[lowP key l].v = v
  rw [← ev, hs.uniq (List.getElem_mem hl) hx (by rw [hk, e])]

/-! names -/
/-- Whom host h names for a key: who was given it by h; the first, if h never had it. -/
def nx (h : Nat) : Nat → List Nat → Nat
  | _, [] => 0
  | y, o :: r => if h = o then y else nx h o r
/-- Who has a key, and who had it before: the first one was the first. -/
def Ch : Nat → List Nat → Prop
  | y, [] => y = 0
  | y, o :: r => y ≠ o ∧ Ch o r
theorem nx_ne : ∀ {r : List Nat} {y h : Nat}, Ch y r → h ≠ y → nx h y r ≠ h
  | [], y, h, hc, hn => fun e => hn (by have : (0 : Nat) = h := e; have : y = 0 := hc; omega)
  | o :: r, y, h, hc, hn => by
    show (if h = o then y else nx h o r) ≠ h
    by_cases e : h = o
    · rw [if_pos e]; exact fun e2 => hn e2.symm
    · rw [if_neg e]; exact nx_ne hc.2 e
theorem nx_ne2 {r : List Nat} {y o : Nat} (hc : Ch y (o :: r)) (h : Nat) : nx h y (o :: r) ≠ h := by
  by_cases e : h = y
  · subst e
    show (if h = o then h else nx h o r) ≠ h
    rw [if_neg hc.1]
    exact nx_ne hc.2 hc.1
  · exact nx_ne hc e
theorem nx_lt : ∀ {r : List Nat} {y h n : Nat}, 0 < n → y < n → (∀ x ∈ r, x < n) → nx h y r < n
  | [], _, _, _, h0, _, _ => h0
  | o :: r, y, h, n, h0, hy, hr => by
    show (if h = o then y else nx h o r) < n
    split
    · exact hy
    · exact nx_lt h0 (hr o (List.mem_cons_self ..)) (fun x hx => hr x (List.mem_cons_of_mem _ hx))
def psn (h : Nat) : List Nat → Nat
  | [] => 0
  | o :: r => if h = o then 0 else psn h r + 1
theorem nx_psn : ∀ {r : List Nat} {y h : Nat}, Ch y r → h ≠ y → nx h y r = y ∨ psn (nx h y r) r < psn h r
  | [], y, h, hc, _ => .inl (by have : y = 0 := hc; rw [this]; rfl)
  | o :: r, y, h, hc, hn => by
    show (if h = o then y else nx h o r) = y ∨ psn (if h = o then y else nx h o r) (o :: r) < psn h (o :: r)
    by_cases e : h = o
    · rw [if_pos e]; exact .inl rfl
    · rw [if_neg e]
      right
      have e1 : psn h (o :: r) = psn h r + 1 := by show (if h = o then 0 else psn h r + 1) = _; rw [if_neg e]
      rw [e1]
      show (if nx h o r = o then 0 else psn (nx h o r) r + 1) < psn h r + 1
      rcases nx_psn hc.2 e with h1 | h1
      · rw [if_pos h1]; omega
      · split <;> omega
def nm (y : Nat) (r : List Nat) (h : Nat) : Nat := if h = y then y else nx h y r
theorem nm_lt {r : List Nat} {y h n : Nat} (h0 : 0 < n) (hy : y < n) (hr : ∀ x ∈ r, x < n) : nm y r h < n := by
  unfold nm; split
  · exact hy
  · exact nx_lt h0 hy hr
theorem nm_self {r : List Nat} {y h : Nat} (hc : Ch y r) (e : nm y r h = h) : h = y := by
  unfold nm at e
  split at e
  · exact e.symm
  · rename_i hn
    exact absurd e (nx_ne hc hn)
/-- Whom one comes to who asks so many times. -/
def run (y : Nat) (r : List Nat) : Nat → Nat → Nat
  | 0, h => h
  | f + 1, h => run y r f (nm y r h)
theorem run_own (y : Nat) (r : List Nat) : ∀ f, run y r f y = y
  | 0 => rfl
  | f + 1 => by show run y r f (nm y r y) = y; rw [show nm y r y = y from if_pos rfl]; exact run_own y r f
theorem nodupN : ∀ {n : Nat} {l : List Nat}, l.Nodup → (∀ x ∈ l, x < n) → l.length ≤ n
  | 0, [], _, _ => Nat.le_refl _
  | 0, x :: _, _, h => absurd (h x (List.mem_cons_self ..)) (Nat.not_lt_zero _)
  | n + 1, l, hn, h => by
    have h1 := nodupN (n := n) (l := l.erase n) (hn.sublist List.erase_sublist) (fun x hx => by
      have h2 := h x (List.mem_of_mem_erase hx)
      by_cases e : x = n
      · subst e; exact absurd hx (fun h => by have := (List.Nodup.mem_erase_iff hn).1 h; exact this.1 rfl)
      · omega)
    have h2 : l.length ≤ (l.erase n).length + 1 := by
      rw [List.length_erase]
      split <;> omega
    omega
theorem run_to {n y : Nat} {r : List Nat} (hc : Ch y r) (h0 : 0 < n) (hy : y < n) (hr : ∀ x ∈ r, x < n) : ∀ (f : Nat) (V : List Nat) (h : Nat), V.length + f + 1 = n → V.Nodup → (∀ x ∈ V, x < n ∧ x ≠ y ∧ psn h r < psn x r) → h < n → run y r f h = y
  | f, V, h, hf, hV, hx, hh => by
    by_cases e : h = y
    · subst e; exact run_own _ _ _
    · have hnd : (y :: h :: V).Nodup := by
        refine List.nodup_cons.2 ⟨fun hm => ?_, List.nodup_cons.2 ⟨fun hm => ?_, hV⟩⟩
        · rcases List.mem_cons.1 hm with e2 | hm
          · exact e e2.symm
          · exact (hx y hm).2.1 rfl
        · have := (hx h hm).2.2; omega
      have hl := nodupN hnd (n := n) (fun x hm => by
        rcases List.mem_cons.1 hm with rfl | hm
        · exact hy
        · rcases List.mem_cons.1 hm with rfl | hm
          · exact hh
          · exact (hx x hm).1)
      simp only [List.length_cons] at hl
      cases f with
      | zero => omega
      | succ f =>
        show run y r f (nm y r h) = y
        have en : nm y r h = nx h y r := if_neg e
        rcases nx_psn hc e with h1 | h1
        · rw [en, h1]; exact run_own _ _ _
        · refine run_to hc h0 hy hr f (h :: V) _ (by simp only [List.length_cons]; omega) (List.nodup_cons.1 hnd).2 (fun x hm => ?_) (nm_lt h0 hy hr)
          rw [en]
          rcases List.mem_cons.1 hm with rfl | hm
          · exact ⟨hh, e, h1⟩
          · obtain ⟨a, b, c⟩ := hx x hm
            exact ⟨a, b, by omega⟩
theorem run_all {n y : Nat} {r : List Nat} (hc : Ch y r) (hy : y < n) (hr : ∀ x ∈ r, x < n) {h : Nat} (hh : h < n) : run y r (n - 1) h = y :=
  run_to hc (by omega) hy hr (n - 1) [] h (by simp; omega) List.nodup_nil (fun x hx => by cases hx) hh
end Go.Proofs.Ytpfgnhockfofhaa

/-
  Shared by many, plainly: of each key, who has it, what is on its way of it, and whom hosts name.
-/
namespace Go.Proofs.Ytpfgnhockfofhaa
open Go.RowKit

/-- Does a body bring a key? -/
def covB (key : List UInt8) (b : List UInt8) : Bool := match unp b with
  | some (fr, up, _) => inR key fr up
  | none => false
def itB (b : List UInt8) : List Pr := match unp b with
  | some (_, _, l) => l
  | none => []
def nmF (fl : Bool) (y : Nat) (past : List Nat) (h : Nat) : Nat := if fl = true then nx h y past else nm y past h
structure KI (S : Sd) (sn : Snt) (key : List UInt8) (y : Nat) (past : List Nat) (fl : Bool) (o : Option (List UInt8)) : Prop where
  yn : y < S.n
  pn : ∀ x ∈ past, x < S.n
  ch : Ch y past
  na : ∀ h, h < S.n → hoR 0 (S.ho h).kb key = ((nmF fl y past h : Nat) : Int) + 1
  tr : fl = true → ∃ i r idx b, past = i :: r ∧ CM S i y ≤ idx ∧ (sn i y)[idx]? = some b ∧ covB key b = true
  un : ∀ i j idx b, i < S.n → j < S.n → i ≠ j → CM S i j ≤ idx → (sn i j)[idx]? = some b → covB key b = true → fl = true ∧ past.head? = some i ∧ j = y ∧ Has key (itB b) o
  u2 : ∀ i j idx idx' b b', i < S.n → j < S.n → i ≠ j → CM S i j ≤ idx → CM S i j ≤ idx' → (sn i j)[idx]? = some b → (sn i j)[idx']? = some b' → covB key b = true → covB key b' = true → idx = idx'
  it : ∀ h, h < S.n → Has key (S.ho h).it (if fl = false ∧ h = y then o else none)
theorem KI.start {n : Nat} (h : 0 < n) (key : List UInt8) : KI (sd0 n) (fun _ _ => []) key 0 [] false none := by
  refine ⟨h, fun x hx => (by cases hx), rfl, fun a _ => ?_, fun e => (by cases e), fun i j idx b _ _ _ _ e => (by simp at e), fun i j idx idx' b b' _ _ _ _ _ e => (by simp at e), fun a _ => ?_⟩
  · show (if lessB key [] = true then (0 : Int) else 1) = _
    rw [less_nil_right, if_neg (by decide)]
    unfold nmF nm nx
    by_cases e : a = 0 <;> simp
  · have e : (if false = false ∧ a = 0 then (none : Option (List UInt8)) else none) = none := by split <;> rfl
    rw [e]
    exact fun x hx => by cases hx
/-- Who says itself has the key. -/
theorem KI.self {S : Sd} {sn : Snt} {key : List UInt8} {y : Nat} {past : List Nat} {fl : Bool} {o : Option (List UInt8)} (x : KI S sn key y past fl o) {h : Nat} (hh : h < S.n) : hoR 0 (S.ho h).kb key = (h : Int) + 1 ↔ fl = false ∧ h = y := by
  rw [x.na h hh]
  have e : (((nmF fl y past h : Nat) : Int) + 1 = (h : Int) + 1) ↔ nmF fl y past h = h := by omega
  rw [e]
  unfold nmF
  cases fl with
  | true =>
    obtain ⟨i, r, _, _, e1, _⟩ := x.tr rfl
    rw [if_pos rfl]
    constructor
    · intro h2
      have := x.ch
      rw [e1] at this h2
      exact absurd h2 (nx_ne2 this h)
    · rintro ⟨h1, _⟩; cases h1
  | false =>
    rw [if_neg (by decide)]
    constructor
    · exact fun h2 => ⟨rfl, nm_self x.ch h2⟩
    · rintro ⟨_, rfl⟩; exact if_pos rfl
/-- Nothing of the key changes. -/
theorem KI.same {S S' : Sd} {sn : Snt} {key : List UInt8} {y : Nat} {past : List Nat} {fl : Bool} {o : Option (List UInt8)} (x : KI S sn key y past fl o) (hn : S'.n = S.n) (hk : ∀ h, h < S.n → hoR 0 (S'.ho h).kb key = hoR 0 (S.ho h).kb key) (hc : ∀ i j, CM S' i j = CM S i j) (hi : ∀ h, h < S.n → ∀ z : Pr, z.k = key → (z ∈ (S'.ho h).it ↔ z ∈ (S.ho h).it)) : KI S' sn key y past fl o := by
  refine ⟨by rw [hn]; exact x.yn, by rw [hn]; exact x.pn, x.ch, fun h hh => ?_, fun e => ?_, fun i j idx b a1 a2 a3 a4 => ?_, fun i j idx idx' b b' a1 a2 a3 a4 a5 => ?_, fun h hh => ?_⟩
  · rw [hn] at hh; rw [hk h hh]; exact x.na h hh
  · simp only [hc]; exact x.tr e
  · rw [hn] at a1 a2; rw [hc] at a4; exact x.un i j idx b a1 a2 a3 a4
  · rw [hn] at a1 a2; rw [hc] at a4 a5; exact x.u2 i j idx idx' b b' a1 a2 a3 a4 a5
  · rw [hn] at hh; exact (x.it h hh).of (hi h hh)
/-- Who has the key sets or deletes it. -/
theorem KI.set {S S' : Sd} {sn : Snt} {key : List UInt8} {y : Nat} {past : List Nat} {o o' : Option (List UInt8)} (x : KI S sn key y past false o) (hn : S'.n = S.n) (hk : ∀ h, (S'.ho h).kb = (S.ho h).kb) (hc : ∀ i j, CM S' i j = CM S i j) (hi : ∀ h, h ≠ y → (S'.ho h).it = (S.ho h).it) (ho : Has key (S'.ho y).it o') : KI S' sn key y past false o' := by
  refine ⟨by rw [hn]; exact x.yn, by rw [hn]; exact x.pn, x.ch, fun h hh => ?_, fun e => (by cases e), fun i j idx b a1 a2 a3 a4 a5 a6 => ?_, fun i j idx idx' b b' a1 a2 a3 a4 a5 => ?_, fun h hh => ?_⟩
  · rw [hn] at hh; rw [hk h]; exact x.na h hh
  · rw [hn] at a1 a2; rw [hc] at a4; have := (x.un i j idx b a1 a2 a3 a4 a5 a6).1; cases this
  · rw [hn] at a1 a2; rw [hc] at a4 a5; exact x.u2 i j idx idx' b b' a1 a2 a3 a4 a5
  · rw [hn] at hh
    by_cases e : h = y
    · subst e; rw [if_pos ⟨rfl, rfl⟩]; exact ho
    · have := x.it h hh
      rw [if_neg (fun z => e z.2)] at this ⊢
      rw [hi h e]; exact this
/-- A range is handed over. -/
structure Gv (S S' : Sd) (sn sn' : Snt) (i j : Nat) (fr up b : List UInt8) : Prop where
  n : S'.n = S.n
  cm : ∀ a c, CM S' a c = CM S a c
  sn : sn' = put2 sn i j b
  ub : unp b = some (fr, up, midP fr up (S.ho i).it)
  sm : someR fr up = true
  ot : ∀ a, a ≠ i → (S'.ho a).kb = (S.ho a).kb ∧ (S'.ho a).it = (S.ho a).it
  kb : (S'.ho i).kb = setB (S.ho i).kb fr up ((j : Int) + 1)
  it : (S'.ho i).it = delI (lowP fr (S.ho i).it) (endP up (S.ho i).it) (S.ho i).it
theorem KI.give {S S' : Sd} {sn sn' : Snt} {key : List UInt8} {y : Nat} {past : List Nat} {fl : Bool} {o : Option (List UInt8)} {i j : Nat} {fr up b : List UInt8} (x : KI S sn key y past fl o) (r : RS S sn) (g : Gv S S' sn sn' i j fr up b) (hi : i < S.n) (hj : j < S.n) (hij : i ≠ j) (hs : Srt (S.ho i).it) (hv : Sh (S.ho i).kb) (hown : inR key fr up = true → hoR 0 (S.ho i).kb key = (i : Int) + 1) :
    ∃ y' past' fl', KI S' sn' key y' past' fl' o := by
  have hcov : covB key b = inR key fr up := by unfold covB; rw [g.ub]
  have hput : ∀ a c, sn' a c = if a = i ∧ c = j then sn i j ++ [b] else sn a c := fun a c => by rw [g.sn]; rfl
  have hle := (r.le i j hi hj hij).2
  have hat : ∀ a c idx d, (sn' a c)[idx]? = some d → (sn a c)[idx]? = some d ∨ (a = i ∧ c = j ∧ idx = (sn i j).length ∧ d = b) := fun a c idx d h => by
    rw [hput] at h
    split at h
    · rename_i e
      obtain ⟨rfl, rfl⟩ := e
      by_cases hl : idx < (sn a c).length
      · rw [List.getElem?_append_left hl] at h; exact .inl h
      · rw [List.getElem?_append_right (by omega)] at h
        have h0 : idx - (sn a c).length = 0 := by
          have := (List.getElem?_eq_some_iff.1 h).1
          simp at this
          omega
        rw [h0] at h
        exact .inr ⟨rfl, rfl, by omega, by simpa using h.symm⟩
    · exact .inl h
  have hold : ∀ a c idx d, (sn a c)[idx]? = some d → (sn' a c)[idx]? = some d := fun a c idx d h => by
    rw [hput]
    split
    · rename_i e
      obtain ⟨rfl, rfl⟩ := e
      rw [List.getElem?_append_left (List.getElem?_eq_some_iff.1 h).1]; exact h
    · exact h
  cases hin : inR key fr up with
  | true =>
    obtain ⟨rfl, rfl⟩ := (x.self hi).1 (hown hin)
    have hnone : ∀ a c idx d, a < S.n → c < S.n → a ≠ c → CM S a c ≤ idx → (sn a c)[idx]? = some d → covB key d = true → False := fun a c idx d a1 a2 a3 a4 a5 a6 => by have := (x.un a c idx d a1 a2 a3 a4 a5 a6).1; cases this
    refine ⟨j, i :: past, true, by rw [g.n]; exact hj, fun z hz => ?_, ⟨Ne.symm hij, x.ch⟩, fun h hh => ?_, fun _ => ?_, fun a c idx d a1 a2 a3 a4 a5 a6 => ?_, fun a c idx idx' d d' a1 a2 a3 a4 a5 a6 a7 a8 a9 => ?_, fun h hh => ?_⟩
    · rw [g.n]
      rcases List.mem_cons.1 hz with rfl | hz
      · exact hi
      · exact x.pn z hz
    · rw [g.n] at hh
      show _ = (((if h = i then j else nx h i past : Nat)) : Int) + 1
      by_cases e : h = i
      · subst e
        rw [g.kb, hv.ho, hin, if_pos rfl, if_pos rfl]
      · rw [(g.ot h e).1, x.na h hh, if_neg e]
        show (((nm i past h : Nat)) : Int) + 1 = _
        unfold nm
        rw [if_neg e]
    · refine ⟨i, past, (sn i j).length, b, rfl, by rw [g.cm]; exact hle, ?_, by rw [hcov]; exact hin⟩
      rw [hput, if_pos ⟨rfl, rfl⟩]
      simp
    · rw [g.n] at a1 a2
      rw [g.cm] at a4
      rcases hat a c idx d a5 with h | ⟨rfl, rfl, _, rfl⟩
      · exact (hnone a c idx d a1 a2 a3 a4 h a6).elim
      · refine ⟨rfl, rfl, rfl, ?_⟩
        have h1 := x.it a hi
        rw [if_pos ⟨rfl, rfl⟩] at h1
        refine h1.of (fun z hz => ?_)
        unfold itB
        rw [g.ub]
        show z ∈ midP fr up (S.ho a).it ↔ _
        rw [mem_mid hs g.sm]
        exact ⟨fun h => h.1, fun h => ⟨h, by rw [hz]; exact hin⟩⟩
    · rw [g.n] at a1 a2
      rw [g.cm] at a4 a5
      rcases hat a c idx d a6 with h | ⟨rfl, rfl, e1, _⟩
      · exact (hnone a c idx d a1 a2 a3 a4 h a8).elim
      · rcases hat a c idx' d' a7 with h | ⟨_, _, e2, _⟩
        · exact (hnone a c idx' d' a1 a2 a3 a5 h a9).elim
        · omega
    · rw [g.n] at hh
      rw [if_neg (fun z => by cases z.1)]
      by_cases e : h = i
      · subst e
        rw [g.it]
        intro z hz e2
        have := ((mem_rest hs g.sm).1 hz).2
        rw [e2, hin] at this
        cases this
      · rw [(g.ot h e).2]
        have := x.it h hh
        rw [if_neg (fun z => e z.2)] at this
        exact this
  | false =>
    have hcb : covB key b = false := by rw [hcov]; exact hin
    have hback : ∀ a c idx d, (sn' a c)[idx]? = some d → covB key d = true → (sn a c)[idx]? = some d := fun a c idx d h hd => by
      rcases hat a c idx d h with h | ⟨_, _, _, rfl⟩
      · exact h
      · rw [hcb] at hd; cases hd
    refine ⟨y, past, fl, by rw [g.n]; exact x.yn, by rw [g.n]; exact x.pn, x.ch, fun h hh => ?_, fun e => ?_, fun a c idx d a1 a2 a3 a4 a5 a6 => ?_, fun a c idx idx' d d' a1 a2 a3 a4 a5 a6 a7 a8 a9 => ?_, fun h hh => ?_⟩
    · rw [g.n] at hh
      rw [← x.na h hh]
      by_cases e : h = i
      · subst e
        rw [g.kb, hv.ho, hin, if_neg (by decide)]
      · rw [(g.ot h e).1]
    · obtain ⟨a, r2, idx, d, h1, h2, h3, h4⟩ := x.tr e
      exact ⟨a, r2, idx, d, h1, by rw [g.cm]; exact h2, hold _ _ _ _ h3, h4⟩
    · rw [g.n] at a1 a2
      rw [g.cm] at a4
      exact x.un a c idx d a1 a2 a3 a4 (hback _ _ _ _ a5 a6) a6
    · rw [g.n] at a1 a2
      rw [g.cm] at a4 a5
      exact x.u2 a c idx idx' d d' a1 a2 a3 a4 a5 (hback _ _ _ _ a6 a8) (hback _ _ _ _ a7 a9) a8 a9
    · rw [g.n] at hh
      by_cases e : h = i
      · subst e
        refine (x.it h hh).of (fun z hz => ?_)
        rw [g.it, mem_rest hs g.sm]
        exact ⟨fun h => h.1, fun h => ⟨h, by rw [hz]; exact hin⟩⟩
      · rw [(g.ot h e).2]; exact x.it h hh
/-- A body comes. -/
structure Cv (S S' : Sd) (sn : Snt) (i j : Nat) (fr up : List UInt8) (l : List Pr) (b : List UInt8) : Prop where
  n : S'.n = S.n
  cm : ∀ a c, CM S' a c = if a = i ∧ c = j then CM S i j + 1 else CM S a c
  sn : (sn i j)[CM S i j]? = some b
  ub : unp b = some (fr, up, l)
  srt : Srt l
  inr : ∀ z ∈ l, inR z.k fr up = true
  ot : ∀ a, a ≠ j → (S'.ho a).kb = (S.ho a).kb ∧ (S'.ho a).it = (S.ho a).it
  kb : (S'.ho j).kb = setB (S.ho j).kb fr up ((j : Int) + 1)
  it : (S'.ho j).it = setIs l (S.ho j).it
theorem KI.come {S S' : Sd} {sn : Snt} {key : List UInt8} {y : Nat} {past : List Nat} {fl : Bool} {o : Option (List UInt8)} {i j : Nat} {fr up b : List UInt8} {l : List Pr} (x : KI S sn key y past fl o) (g : Cv S S' sn i j fr up l b) (hi : i < S.n) (hj : j < S.n) (hij : i ≠ j) (hs : Srt (S.ho j).it) (hv : Sh (S.ho j).kb) :
    ∃ fl', KI S' sn key y past fl' o := by
  have hcov : covB key b = inR key fr up := by unfold covB; rw [g.ub]
  have hge : ∀ a c, CM S a c ≤ CM S' a c := fun a c => by
    rw [g.cm]; split
    · rename_i e; rw [e.1, e.2]; omega
    · exact Nat.le_refl _
  cases hin : inR key fr up with
  | true =>
    have hcb : covB key b = true := by rw [hcov]; exact hin
    obtain ⟨rfl, hp, rfl, ho⟩ := x.un i j (CM S i j) b hi hj hij (Nat.le_refl _) g.sn hcb
    have hno : ∀ a c idx d, a < S.n → c < S.n → a ≠ c → CM S' a c ≤ idx → (sn a c)[idx]? = some d → covB key d = true → False := fun a c idx d a1 a2 a3 a4 a5 a6 => by
      obtain ⟨_, hp2, rfl, _⟩ := x.un a c idx d a1 a2 a3 (Nat.le_trans (hge a c) a4) a5 a6
      rw [hp] at hp2
      obtain rfl : i = a := Option.some.inj hp2
      have h1 := x.u2 i c (CM S i c) idx b d a1 a2 a3 (Nat.le_refl _) (Nat.le_trans (hge i c) a4) g.sn a5 hcb a6
      rw [g.cm, if_pos ⟨rfl, rfl⟩] at a4
      omega
    refine ⟨false, by rw [g.n]; exact x.yn, by rw [g.n]; exact x.pn, x.ch, fun h hh => ?_, fun e => (by cases e), fun a c idx d a1 a2 a3 a4 a5 a6 => ?_, fun a c idx idx' d d' a1 a2 a3 a4 a5 a6 a7 a8 a9 => ?_, fun h hh => ?_⟩
    · rw [g.n] at hh
      show _ = (((nm j past h : Nat)) : Int) + 1
      unfold nm
      by_cases e : h = j
      · subst e
        rw [g.kb, hv.ho, hin, if_pos rfl, if_pos rfl]
      · rw [(g.ot h e).1, x.na h hh, if_neg e]
        rfl
    · rw [g.n] at a1 a2
      exact (hno a c idx d a1 a2 a3 a4 a5 a6).elim
    · rw [g.n] at a1 a2
      exact (hno a c idx d a1 a2 a3 a4 a6 a8).elim
    · rw [g.n] at hh
      by_cases e : h = j
      · subst e
        rw [if_pos ⟨rfl, rfl⟩, g.it]
        have h0 := x.it h hj
        rw [if_neg (fun z => by cases z.1)] at h0
        refine ho.of (fun z hz => ?_)
        unfold itB
        rw [g.ub]
        show z ∈ setIs l (S.ho h).it ↔ z ∈ l
        rw [mem_setIs hs g.srt]
        exact ⟨fun h2 => by rcases h2 with h2 | ⟨h2, _⟩; exact h2; exact absurd hz (h0 z h2), .inl⟩
      · rw [if_neg (fun z => e z.2), (g.ot h e).2]
        have := x.it h hh
        rw [if_neg (fun z => by cases z.1)] at this
        exact this
  | false =>
    have hcb : covB key b = false := by rw [hcov]; exact hin
    refine ⟨fl, by rw [g.n]; exact x.yn, by rw [g.n]; exact x.pn, x.ch, fun h hh => ?_, fun e => ?_, fun a c idx d a1 a2 a3 a4 a5 a6 => ?_, fun a c idx idx' d d' a1 a2 a3 a4 a5 a6 a7 a8 a9 => ?_, fun h hh => ?_⟩
    · rw [g.n] at hh
      rw [← x.na h hh]
      by_cases e : h = j
      · subst e
        rw [g.kb, hv.ho, hin, if_neg (by decide)]
      · rw [(g.ot h e).1]
    · obtain ⟨a, r2, idx, d, h1, h2, h3, h4⟩ := x.tr e
      refine ⟨a, r2, idx, d, h1, ?_, h3, h4⟩
      rw [g.cm]
      split
      · rename_i e
        obtain ⟨rfl, rfl⟩ := e
        by_cases e2 : idx = CM S a y
        · subst e2
          have : some d = some b := h3.symm.trans g.sn
          rw [Option.some.inj this, hcb] at h4
          cases h4
        · omega
      · exact h2
    · rw [g.n] at a1 a2
      exact x.un a c idx d a1 a2 a3 (Nat.le_trans (hge a c) a4) a5 a6
    · rw [g.n] at a1 a2
      exact x.u2 a c idx idx' d d' a1 a2 a3 (Nat.le_trans (hge a c) a4) (Nat.le_trans (hge a c) a5) a6 a7 a8 a9
    · rw [g.n] at hh
      by_cases e : h = j
      · subst e
        refine (x.it h hh).of (fun z hz => ?_)
        rw [g.it, mem_setIs hs g.srt]
        constructor
        · rintro (h2 | h2)
          · have := g.inr z h2
            rw [hz, hin] at this
            cases this
          · exact h2.1
        · intro h2
          refine .inr ⟨h2, fun q hq e2 => ?_⟩
          have := g.inr q hq
          rw [← e2, hz, hin] at this
          cases this
      · rw [(g.ot h e).2]; exact x.it h hh
/-- All has come: somebody has the key, and has what was set last. -/
theorem KI.done {S : Sd} {sn : Snt} {key : List UInt8} {y : Nat} {past : List Nat} {fl : Bool} {o : Option (List UInt8)} (x : KI S sn key y past fl o) (hd : Dlv S sn) : fl = false := by
  cases fl with
  | false => rfl
  | true =>
    obtain ⟨i, r, idx, b, h1, h2, h3, _⟩ := x.tr rfl
    have hi : i < S.n := x.pn i (by rw [h1]; exact List.mem_cons_self ..)
    have hc := x.ch
    rw [h1] at hc
    have := hd i y hi x.yn (Ne.symm hc.1)
    have hl := (List.getElem?_eq_some_iff.1 h3).1
    omega
end Go.Proofs.Ytpfgnhockfofhaa
