/-
  ClientExact: the two clients in memory, side by side.
-/
import Derived.Test.YtbfleeilpccmcaaWCr4
namespace Go.Proofs.Ytbfleeilpccmcaa
open Go.RowKit

/-- What of a client is plain: behind i steps. -/
structure PC (i : Int) (n : Nat) (c : Cl) : Prop where
  nx : c.nx < n
  st : c.st = 0 ∨ c.st = 1 ∨ c.st = 2
  nu0 : 0 ≤ c.nu
  nu1 : c.nu ≤ i
  la0 : 0 ≤ c.la
  la1 : c.la ≤ i
  si0 : 0 ≤ c.si
  si1 : c.si ≤ 100
  wt : c.wt = true → c.si < c.pat
  pat0 : 1 ≤ c.pat
  pat1 : c.pat ≤ 100
  kl : c.ks.length ≤ 8796093022200
  kz : ∀ k ∈ c.ks, k.length ≤ maxLen
theorem PC.mono {i j : Int} {n : Nat} {c : Cl} (h : PC i n c) (hij : i ≤ j) : PC j n c := ⟨h.nx, h.st, h.nu0, by have := h.nu1; omega, h.la0, by have := h.la1; omega, h.si0, h.si1, h.wt, h.pat0, h.pat1, h.kl, h.kz⟩
theorem PC.new {n : Nat} {pat : Int} (hn : 0 < n) (h1 : 1 ≤ pat) (h2 : pat ≤ 100) : PC 0 n (newC pat) := ⟨hn, .inl rfl, Int.le_refl (0 : Int), Int.le_refl (0 : Int), Int.le_refl (0 : Int), Int.le_refl (0 : Int), Int.le_refl (0 : Int), (show (0 : Int) ≤ 100 by decide), (fun e => by cases e), h1, h2, Nat.zero_le _, fun k hk => by cases hk⟩
theorem PC.turn {i : Int} {n : Nat} {c : Cl} (h : PC i n c) : PC i n (turnC c n) := ⟨Nat.mod_lt _ (by have := h.nx; omega), h.st, h.nu0, h.nu1, h.la0, h.la1, h.si0, h.si1, (fun e => by cases e), h.pat0, h.pat1, h.kl, h.kz⟩
theorem PC.want {i : Int} {n : Nat} {c : Cl} (h : PC i n c) (k : Int) (key val : List UInt8) (j : Int) : PC i n (wantC c k key val j) := by
  unfold wantC
  split
  · split
    · exact ⟨h.nx, .inr (.inl rfl), h.nu0, h.nu1, h.la0, h.la1, h.si0, h.si1, (fun e => by cases e), h.pat0, h.pat1, h.kl, h.kz⟩
    · exact h
  · exact h
theorem PC.next {i : Int} {n : Nat} {c : Cl} (h : PC i n c) : PC (i + 1) n (nextC c) := by
  unfold nextC
  split
  · exact ⟨h.nx, h.st, h.nu0, (by have := h.nu1; show c.nu ≤ _; omega), (by have := h.la0; show 0 ≤ c.la + 1; omega), (by have := h.la1; show c.la + 1 ≤ _; omega), (by show (0 : Int) ≤ 0; omega), (by show (0 : Int) ≤ 100; omega), (fun _ => by have := h.pat0; show (0 : Int) < c.pat; omega), h.pat0, h.pat1, h.kl, h.kz⟩
  · exact h.mono (by omega)
theorem PC.tick {i : Int} {n : Nat} {c : Cl} (h : PC i n c) : PC i n (tickC c n) := by
  unfold tickC
  have h0 := h.si0
  have h1 := h.pat1
  split
  · rename_i ht
    have h2 := h.wt ht
    split
    · exact ⟨Nat.mod_lt _ (by have := h.nx; omega), h.st, h.nu0, h.nu1, h.la0, h.la1, (by show 0 ≤ c.si + 1; omega), (by show c.si + 1 ≤ 100; omega), (fun e => by cases e), h.pat0, h.pat1, h.kl, h.kz⟩
    · exact ⟨h.nx, h.st, h.nu0, h.nu1, h.la0, h.la1, (by show 0 ≤ c.si + 1; omega), (by show c.si + 1 ≤ 100; omega), (fun _ => by show c.si + 1 < c.pat; omega), h.pat0, h.pat1, h.kl, h.kz⟩
  · exact h
theorem PC.done {i : Int} {n : Nat} {c : Cl} (h : PC i n c) : PC i n (doneC c) := by
  unfold doneC
  split
  · exact ⟨h.nx, .inl rfl, h.nu0, h.nu1, h.la0, h.la1, h.si0, h.si1, h.wt, h.pat0, h.pat1, Nat.zero_le _, fun k hk => by cases hk⟩
  · exact h
theorem PC.ans {i : Int} {n : Nat} {c : Cl} (h : PC i n c) (hi : 0 ≤ i) (id er rk : Int) (rval : List UInt8) (rver : Int) {ks : List (List UInt8)} (hl : ks.length ≤ 8796093022200) (hz : ∀ k ∈ ks, k.length ≤ maxLen) : PC (i + 1) n (ansC c n id er rk rval rver ks) := by
  have hm := h.mono (show i ≤ i + 1 by omega)
  unfold ansC
  split
  · split
    · split
      · unfold openC
        split
        · exact ⟨h.nx, h.st, (by show (0 : Int) ≤ 0; omega), (by show (0 : Int) ≤ i + 1; omega), hm.la0, hm.la1, h.si0, h.si1, (fun e => by cases e), h.pat0, h.pat1, h.kl, h.kz⟩
        · exact ⟨h.nx, h.st, hm.nu0, hm.nu1, hm.la0, hm.la1, h.si0, h.si1, (fun e => by cases e), h.pat0, h.pat1, h.kl, h.kz⟩
      · have h0 := h.nu0
        have h1 := h.nu1
        refine ⟨h.nx, .inr (.inr rfl), ?_, ?_, hm.la0, hm.la1, h.si0, h.si1, (fun e => by cases e), h.pat0, h.pat1, hl, hz⟩
        · show 0 ≤ if endB rk then 0 else c.nu + 1
          split <;> omega
        · show (if endB rk then 0 else c.nu + 1) ≤ i + 1
          split <;> omega
    · split
      · split
        · exact hm.turn
        · exact hm
      · exact hm
  · exact hm
theorem ansC_ks {c : Cl} {n : Nat} {id er rk rver : Int} {rval : List UInt8} {ks : List (List UInt8)} : (ansC c n id er rk rval rver ks).ks = if fins c id er then ks else c.ks := by
  unfold ansC fins
  cases hh : hears c id with
  | false => rfl
  | true =>
    rw [if_pos rfl]
    by_cases he : er = 0
    · rw [if_pos he]
      by_cases hz : c.se = 0
      · rw [if_pos hz]
        unfold openC
        simp [hz]
        split <;> rfl
      · rw [if_neg hz]
        simp [he, hz, finC]
    · rw [if_neg he]
      simp [he]
      split
      · split <;> rfl
      · rfl
theorem ansC_st {c : Cl} {n : Nat} {id er rk rver : Int} {rval : List UInt8} {ks : List (List UInt8)} (h : fins c id er = false) : (ansC c n id er rk rval rver ks).st = c.st := by
  unfold ansC
  unfold fins at h
  cases hh : hears c id with
  | false => rfl
  | true =>
    rw [if_pos rfl]
    by_cases he : er = 0
    · rw [if_pos he]
      by_cases hz : c.se = 0
      · rw [if_pos hz]
        unfold openC
        split <;> rfl
      · exfalso
        rw [hh] at h
        simp [he, hz] at h
    · rw [if_neg he]
      split
      · split <;> rfl
      · rfl

/-- The two clients in memory, above the world w0: b is the program's, y the document's. -/
structure MX (w0 w : World) (b y : Nat) (c : Cl) (r : Rl) (l : List Int) (an : Option Addr) (cn : Nat) (ko : Option Addr) (kc : Nat) (an2 : Option Addr) (cn2 : Nat) (rks : List (List UInt8)) : Prop where
  cl : ClAt w b c an l.length cn ko kc
  rl : RAt w y r an2 l.length cn2
  nb : w.ownsRow w0.heap.size 3 1 (.slice an l.length cn) l.length (intCells l)
  ny : IntRow w0.heap.size w an2 l
  ok : OwnK w0.heap.size w ko kc c.ks
  rk : KIn (fun k => k < w0.heap.size) w r.ro r.rc rks
  kept : Kept Nil w0 w
  newb : w0.heap.size ≤ b
  newy : w0.heap.size ≤ y
  ne : b ≠ y
/-- What is plain of both. -/
structure PX (i : Int) (n : Nat) (c : Cl) (r : Rl) (rks : List (List UInt8)) : Prop where
  pc : PC i n c
  sim : Sim c r
  res : c.st = 2 → rks = c.ks
theorem Kept.old {w0 w w' : World} {b : Nat} (h : Kept Nil w0 w) (k : Kept (One b) w w') (hb : w0.heap.size ≤ b) : Kept Nil w0 w' :=
  ⟨k.os.trans h.os, k.tape.trans h.tape, k.output.trans h.output, Nat.le_trans h.size k.size, fun q o ho hx => k.block _ _ (h.block q o ho hx) (fun e => by have e2 : q = b := e; have := lt_of_block ho; omega)⟩
theorem MX.next {w0 w w' : World} {b y cn kc cn2 : Nat} {c : Cl} {r : Rl} {l : List Int} {an ko an2 : Option Addr} {rks : List (List UInt8)} (h : MX w0 w b y c r l an cn ko kc an2 cn2 rks) (k : Kept Nil w w') : MX w0 w' b y c r l an cn ko kc an2 cn2 rks :=
  ⟨h.cl.kept k, h.rl.kept k, own_keptT h.nb k (fun _ _ _ _ x => x), h.ny.nil k, own_keptT h.ok k (fun _ _ _ _ x => x), h.rk.kept k, h.kept.trans k, h.newb, h.newy, h.ne⟩
theorem MX.rowX {w0 w : World} {b y cn kc cn2 : Nat} {c : Cl} {r : Rl} {l : List Int} {an ko an2 : Option Addr} {rks : List (List UInt8)} (h : MX w0 w b y c r l an cn ko kc an2 cn2 rks) : IntRow w.heap.size w an l := by
  have h9 : w.ownsRow w0.heap.size 3 1 (.slice an l.length cn) l.length (intCells (l ++ [])) := by rw [List.append_nil]; exact h.nb
  exact row_own h9
/-- The program's client behind a call. -/
theorem MX.callX {w0 w w' : World} {b y cn kc cn2 kc' : Nat} {c c' : Cl} {r : Rl} {l : List Int} {an ko an2 ko' : Option Addr} {rks : List (List UInt8)} (h : MX w0 w b y c r l an cn ko kc an2 cn2 rks) (k : Kept (One b) w w') (hc : ClAt w' b c' an l.length cn ko' kc') (ho : OwnK w0.heap.size w' ko' kc' c'.ks) : MX w0 w' b y c' r l an cn ko' kc' an2 cn2 rks :=
  ⟨hc, k.block _ _ h.rl (fun e => h.ne (show y = b from e).symm), own_keptT h.nb k (fun q cs _ hq e => by
      have e2 : q = b := e
      have h9 := h.cl
      unfold ClAt at h9
      rw [e2, h9] at hq
      simp at hq), h.ny.kept k (fun q _ hq e => by have e2 : q = b := e; have := h.newb; omega), ho, h.rk.far k (fun q _ hq e => by have e2 : q = b := e; have := h.newb; omega), h.kept.old k h.newb, h.newb, h.newy, h.ne⟩
theorem MX.keepX {w0 w w' : World} {b y cn kc cn2 : Nat} {c : Cl} {r : Rl} {l : List Int} {an ko an2 : Option Addr} {rks : List (List UInt8)} (h : MX w0 w b y c r l an cn ko kc an2 cn2 rks) (k : Kept (One b) w w') : OwnK w0.heap.size w' ko kc c.ks :=
  own_keptT h.ok k (fun q cs _ hq e => by
      have e2 : q = b := e
      have h9 := h.cl
      unfold ClAt at h9
      rw [e2, h9] at hq
      simp at hq)
/-- The document's client behind a call. -/
theorem MX.callY {w0 w w' : World} {b y cn kc cn2 : Nat} {c : Cl} {r r' : Rl} {l : List Int} {an ko an2 : Option Addr} {rks rks' : List (List UInt8)} (h : MX w0 w b y c r l an cn ko kc an2 cn2 rks) (k : Kept (One y) w w') (hr : RAt w' y r' an2 l.length cn2) (hk : KIn (fun k => k < w0.heap.size) w' r'.ro r'.rc rks') : MX w0 w' b y c r' l an cn ko kc an2 cn2 rks' :=
  ⟨k.block _ _ h.cl (fun e => h.ne e), hr, own_keptT h.nb k (fun q cs _ hq e => by
      have e2 : q = y := e
      have h9 := h.rl
      unfold RAt at h9
      rw [e2, h9] at hq
      simp at hq), h.ny.kept k (fun q _ hq e => by have e2 : q = y := e; have := h.newy; omega), own_keptT h.ok k (fun q cs _ hq e => by
      have e2 : q = y := e
      have h9 := h.rl
      unfold RAt at h9
      rw [e2, h9] at hq
      simp at hq), hk, h.kept.old k h.newy, h.newb, h.newy, h.ne⟩
theorem KIn.one {G : Nat → Prop} {y c : Nat} {w w' : World} {ao : Option Addr} {ks : List (List UInt8)} (h : KIn G w ao c ks) (k : Kept (One y) w w') (hy : ¬ G y) : KIn G w' ao c ks := h.far k (fun q _ hq e => by have e2 : q = y := e; rw [e2] at hq; exact hy hq)
theorem MX.far {w0 w : World} {b y cn kc cn2 : Nat} {c : Cl} {r : Rl} {l : List Int} {an ko an2 : Option Addr} {rks : List (List UInt8)} (h : MX w0 w b y c r l an cn ko kc an2 cn2 rks) : (∀ a, an = some a → a.block ≠ b) := fun a ha e => by
  rcases h.nb.2 with ⟨e1, _⟩ | ⟨g, cap, cur, hv, hb, hh, _⟩
  · simp only [Value.slice.injEq] at e1
    rw [ha] at e1
    exact absurd e1.1 (by simp)
  · simp only [Value.slice.injEq] at hv
    rw [ha] at hv
    have e1 := hv.1
    simp only [Option.some.injEq] at e1
    rw [e1] at e
    simp only at e
    have h9 := h.cl
    unfold ClAt at h9
    rw [← e, hh] at h9
    simp at h9
theorem MX.farY {w0 w : World} {b y cn kc cn2 : Nat} {c : Cl} {r : Rl} {l : List Int} {an ko an2 : Option Addr} {rks : List (List UInt8)} (h : MX w0 w b y c r l an cn ko kc an2 cn2 rks) (hl : 0 < l.length) : (∀ a, an2 = some a → a.block ≠ y) := fun a ha e => by
  obtain ⟨a', ha', hb, _⟩ := h.ny 0 hl
  rw [ha] at ha'
  cases ha'
  have := h.newy
  omega

/-- Behind a step of the script. -/
def StepPost (w0 : World) (i : Int) (b y : Nat) (l : List Int) (an : Option Addr) (cn : Nat) (an2 : Option Addr) (cn2 : Nat) (e : Ending) (w' : World) : Prop :=
  e = .returned (.bool true) ∧ ∃ c r ko kc rks, MX w0 w' b y c r l an cn ko kc an2 cn2 rks ∧ PX (i + 1) l.length c r rks

end Go.Proofs.Ytbfleeilpccmcaa
