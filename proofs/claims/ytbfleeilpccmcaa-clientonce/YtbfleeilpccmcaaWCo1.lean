/-
  ClientOnce: what is plain; the client in memory, and answers that are handed in.
-/
import Derived.Test.YtbfleeilpccmcaaWCx1
namespace Go.Proofs.Ytbfleeilpccmcaa
open Go.RowKit

/-- What a client has asked, as the law keeps it: sv the session, nv the number, the rest the command that was asked last. -/
structure OI (c : Cl) (sv nv ak : Int) (akey aval : List UInt8) (ai : Int) : Prop where
  z : c.se = 0 → sv = 0 ∧ c.nu = 0
  s : c.se ≠ 0 → (sv = 0 ∧ c.nu = 0) ∨ (sv = c.se ∧ (nv = c.nu ∨ (nv = c.nu + 1 ∧ c.st = 1 ∧ ak = c.ck ∧ akey = c.ckey ∧ aval = c.cval ∧ ai = c.ci)))
  a : c.se ≠ 0 → c.st = 1 → c.ol < c.la → sv = c.se ∧ nv = c.nu + 1
  o : c.ol ≤ c.la
theorem OI.new (pat : Int) : OI (newC pat) 0 0 0 [] [] 0 := ⟨fun _ => ⟨rfl, rfl⟩, fun e => absurd rfl e, fun e => absurd rfl e, Int.le_refl (0 : Int)⟩
theorem OI.want {c : Cl} {sv nv ak ai : Int} {akey aval : List UInt8} (h : OI c sv nv ak akey aval ai) (k : Int) (key val : List UInt8) (i : Int) : OI (wantC c k key val i) sv nv ak akey aval ai := by
  unfold wantC
  split
  · split
    · rename_i h0
      refine ⟨h.z, fun e => ?_, fun _ _ e => ?_, ?_⟩
      · rcases h.s e with h1 | ⟨h1, h2 | ⟨_, h3, _⟩⟩
        · exact .inl h1
        · exact .inr ⟨h1, .inl h2⟩
        · omega
      · exact absurd e (by simp [forgetC])
      · exact Int.le_refl _
    · exact h
  · exact h
theorem OI.ask {c : Cl} {sv nv ak ai : Int} {akey aval : List UInt8} (h : OI c sv nv ak akey aval ai) (hg : goes c = true) (hz : c.se ≠ 0) : OI (nextC c) c.se (c.nu + 1) c.ck c.ckey c.cval c.ci := by
  have hs : c.st = 1 := by simp only [goes, Bool.and_eq_true, decide_eq_true_eq] at hg; exact hg.1
  have ho := h.o
  unfold nextC
  rw [hg, if_pos rfl]
  exact ⟨fun e => absurd e hz, fun _ => .inr ⟨rfl, .inr ⟨rfl, hs, rfl, rfl, rfl, rfl⟩⟩, fun _ _ _ => ⟨rfl, rfl⟩, by show c.ol ≤ c.la + 1; omega⟩
theorem OI.next0 {c : Cl} {sv nv ak ai : Int} {akey aval : List UInt8} (h : OI c sv nv ak akey aval ai) (hz : goes c = false ∨ c.se = 0) : OI (nextC c) sv nv ak akey aval ai := by
  have ho := h.o
  unfold nextC
  split
  · rename_i hg
    rcases hz with hz | hz
    · rw [hz] at hg; cases hg
    · exact ⟨h.z, fun e => absurd hz e, fun e => absurd hz e, by show c.ol ≤ c.la + 1; omega⟩
  · exact h
theorem OI.same {c c' : Cl} {sv nv ak ai : Int} {akey aval : List UInt8} (h : OI c sv nv ak akey aval ai) (e1 : c'.se = c.se) (e2 : c'.nu = c.nu) (e3 : c'.st = c.st) (e4 : c'.ck = c.ck) (e5 : c'.ckey = c.ckey) (e6 : c'.cval = c.cval) (e7 : c'.ci = c.ci) (e8 : c'.ol = c.ol) (e9 : c'.la = c.la) : OI c' sv nv ak akey aval ai :=
  ⟨by rw [e1, e2]; exact h.z, by rw [e1, e2, e3, e4, e5, e6, e7]; exact h.s, by rw [e1, e2, e3, e8, e9]; exact h.a, by rw [e8, e9]; exact h.o⟩
theorem OI.tick {c : Cl} {n : Nat} {sv nv ak ai : Int} {akey aval : List UInt8} (h : OI c sv nv ak akey aval ai) : OI (tickC c n) sv nv ak akey aval ai := by
  unfold tickC
  split
  · split
    · exact h.same rfl rfl rfl rfl rfl rfl rfl rfl rfl
    · exact h.same rfl rfl rfl rfl rfl rfl rfl rfl rfl
  · exact h
theorem OI.done {c : Cl} {sv nv ak ai : Int} {akey aval : List UInt8} (h : OI c sv nv ak akey aval ai) : OI (doneC c) sv nv ak akey aval ai := by
  unfold doneC
  split
  · rename_i h2
    refine ⟨h.z, fun e => ?_, fun _ e => absurd e (by show ¬ ((0 : Int) = 1); omega), h.o⟩
    rcases h.s e with h1 | ⟨h1, h3 | ⟨_, h3, _⟩⟩
    · exact .inl h1
    · exact .inr ⟨h1, .inl h3⟩
    · omega
  · exact h
theorem OI.ans {c : Cl} {n : Nat} {sv nv ak ai : Int} {akey aval : List UInt8} (h : OI c sv nv ak akey aval ai) (id er : Int) {rk rver : Int} (rval : List UInt8) (ks : List (List UInt8)) (h5 : rk ≤ 5) (hv : rver ≠ 0) : OI (ansC c n id er rk rval rver ks) sv nv ak akey aval ai := by
  unfold ansC
  cases hh : hears c id with
  | false => exact h
  | true =>
    have h1 : c.st = 1 ∧ c.ol < id ∧ id ≤ c.la := by
      simp only [hears, Bool.and_eq_true, decide_eq_true_eq] at hh
      exact ⟨hh.1.1, hh.1.2, hh.2⟩
    rw [if_pos rfl]
    split
    · split
      · rename_i hz
        obtain ⟨z1, z2⟩ := h.z hz
        unfold openC
        split
        · exact ⟨fun e => absurd e hv, fun _ => .inl ⟨z1, rfl⟩, fun _ _ e => absurd e (by simp [forgetC]), Int.le_refl _⟩
        · exact h.same rfl rfl rfl rfl rfl rfl rfl rfl rfl
      · rename_i hz
        obtain ⟨a1, a2⟩ := h.a hz h1.1 (by omega)
        have hend : endB rk = false := by simp [endB]; omega
        unfold finC
        rw [hend]
        exact ⟨fun e => absurd e hz, fun _ => .inr ⟨a1, .inl a2⟩, fun _ e => absurd e (by show ¬ ((2 : Int) = 1); omega), h.o⟩
    · split
      · split
        · exact h.same rfl rfl rfl rfl rfl rfl rfl rfl rfl
        · exact h
      · exact h
theorem tickC_se {c : Cl} {n : Nat} : (tickC c n).st = c.st := tickC_st
/-- What was asked just now and is answered is a result. -/
theorem fresh_done {c : Cl} {n : Nat} {sv nv ak ai er rk rver : Int} {akey aval rval : List UInt8} {ks : List (List UInt8)} (h : OI c sv nv ak akey aval ai) (hg : goes c = true) (hz : c.se ≠ 0) (he : er = 0) : (tickC (ansC (nextC c) n (nextC c).la er rk rval rver ks) n).st = 2 := by
  have hs : c.st = 1 := by simp only [goes, Bool.and_eq_true, decide_eq_true_eq] at hg; exact hg.1
  have ho := h.o
  rw [tickC_st]
  have e1 : nextC c = { c with la := c.la + 1, wt := true, si := 0 } := by unfold nextC; rw [hg, if_pos rfl]
  have hh : hears (nextC c) (nextC c).la = true := by
    rw [e1]
    simp [hears, hs]
    omega
  unfold ansC
  rw [hh, if_pos rfl, if_pos he, e1, if_neg hz]
  rfl
theorem want_st {c : Cl} {v : List UInt8} (h : c.st = 0 ∨ c.st = 1) (hv : v.length = 1) : (wantC c 1 [107] v 0).st = 1 ∧ wantE c 1 [107] v 0 = (if c.st = 0 then 0 else 21) := by
  have hc : isCmd 1 [107] v 0 = true := by simp [isCmd, isNum]; omega
  constructor
  · unfold wantC
    rw [hc, if_pos rfl]
    split
    · rfl
    · omega
  · unfold wantE
    rw [hc, if_pos rfl]

/-- A client in memory, above the world w0. -/
structure MO (w0 w : World) (b : Nat) (c : Cl) (l : List Int) (an : Option Addr) (cn : Nat) (ko : Option Addr) (kc : Nat) : Prop where
  cl : ClAt w b c an l.length cn ko kc
  nb : w.ownsRow w0.heap.size 3 1 (.slice an l.length cn) l.length (intCells l)
  kept : Kept Nil w0 w
  newb : w0.heap.size ≤ b
theorem MO.next {w0 w w' : World} {b cn kc : Nat} {c : Cl} {l : List Int} {an ko : Option Addr} (h : MO w0 w b c l an cn ko kc) (k : Kept Nil w w') : MO w0 w' b c l an cn ko kc :=
  ⟨h.cl.kept k, own_keptT h.nb k (fun _ _ _ _ x => x), h.kept.trans k, h.newb⟩
theorem MO.row {w0 w : World} {b cn kc : Nat} {c : Cl} {l : List Int} {an ko : Option Addr} (h : MO w0 w b c l an cn ko kc) : IntRow w.heap.size w an l := by
  have h9 : w.ownsRow w0.heap.size 3 1 (.slice an l.length cn) l.length (intCells (l ++ [])) := by rw [List.append_nil]; exact h.nb
  exact row_own h9
theorem MO.call {w0 w w' : World} {b cn kc kc' : Nat} {c c' : Cl} {l : List Int} {an ko ko' : Option Addr} (h : MO w0 w b c l an cn ko kc) (k : Kept (One b) w w') (hc : ClAt w' b c' an l.length cn ko' kc') : MO w0 w' b c' l an cn ko' kc' :=
  ⟨hc, own_keptT h.nb k (fun q cs _ hq e => by
      have e2 : q = b := e
      have h9 := h.cl
      unfold ClAt at h9
      rw [e2, h9] at hq
      simp at hq), h.kept.old k h.newb, h.newb⟩
/-- A store into a block that is none of the client's and new. -/
theorem MO.set {w0 w : World} {b cn kc g i : Nat} {c : Cl} {l : List Int} {an ko : Option Addr} {cs : Array Value} {t : TypeId} (h : MO w0 w b c l an cn ko kc) (hg : w.heap[g]? = some (.cells cs t (0, 0))) (ht : t ≠ 3) (hb : b ≠ g) (hn : w0.heap.size ≤ g) (u : Value) : MO w0 (w.setCell ⟨g, i, none⟩ u) b c l an cn ko kc :=
  ⟨h.cl.oth (a := ⟨g, i, none⟩) hb u, ownsRow_setCell_other h.nb (a := ⟨g, i, none⟩) (own_neTyS h.nb hg (fun e => ht e.symm)) u, h.kept.setNew (p := ⟨g, i, none⟩) hn u, h.newb⟩
theorem MO.far {w0 w : World} {b cn kc : Nat} {c : Cl} {l : List Int} {an ko : Option Addr} (h : MO w0 w b c l an cn ko kc) : ∀ a, an = some a → a.block ≠ b := fun a ha e => by
  rcases h.nb.2 with ⟨e1, _⟩ | ⟨g, cap, cur, hv, _, hh, _⟩
  · simp only [Value.slice.injEq] at e1
    rw [ha] at e1
    exact absurd e1.1 (by simp)
  · simp only [Value.slice.injEq] at hv
    rw [ha] at hv
    have e1 := hv.1
    simp only [Option.some.injEq] at e1
    rw [e1] at e
    simp only at e
    have h9 := h.cl
    unfold ClAt at h9
    rw [← e, hh] at h9
    simp at h9

/-- An answer, and where its keys lie. -/
structure An where
  tk : Int
  er : Int
  rk : Int
  rval : List UInt8
  rver : Int
  ks : List (List UInt8)
  ao : Option Addr
  cc : Nat
/-- Answers that lie below block B. -/
def AnRow (B : Nat) (w : World) (so : Option Addr) (ss : List An) : Prop := ∀ j, (hj : j < ss.length) → ∃ a, so = some a ∧ a.block < B ∧ (w.cell? (a.add (j * 6)) = some (.int .i64 ss[j].tk) ∧ w.cell? ⟨(a.add (j * 6)).block, (a.add (j * 6)).off + 1, none⟩ = some (.int .i64 ss[j].er) ∧ w.cell? ⟨(a.add (j * 6)).block, (a.add (j * 6)).off + 2, none⟩ = some (.int .i64 ss[j].rk) ∧ w.cell? ⟨(a.add (j * 6)).block, (a.add (j * 6)).off + 3, none⟩ = some (.string (bs ss[j].rval)) ∧ w.cell? ⟨(a.add (j * 6)).block, (a.add (j * 6)).off + 4, none⟩ = some (.int .i64 ss[j].rver) ∧ w.cell? ⟨(a.add (j * 6)).block, (a.add (j * 6)).off + 5, none⟩ = some (.slice ss[j].ao ss[j].ks.length ss[j].cc)) ∧ KIn (fun k => k < B) w ss[j].ao ss[j].cc ss[j].ks
theorem AnRow.nil {B : Nat} {w w' : World} {so : Option Addr} {ss : List An} (h : AnRow B w so ss) (k : Kept Nil w w') : AnRow B w' so ss := fun j hj => by
  obtain ⟨a, ha, hb, ⟨q0, q1, q2, q3, q4, q5⟩, hk⟩ := h j hj
  exact ⟨a, ha, hb, ⟨cell_kept k (fun _ x => x) q0, cell_kept k (fun _ x => x) q1, cell_kept k (fun _ x => x) q2, cell_kept k (fun _ x => x) q3, cell_kept k (fun _ x => x) q4, cell_kept k (fun _ x => x) q5⟩, hk.kept k⟩
def upto (k : Nat) : List Int := (List.range k).map fun (i : Nat) => ((i : Int) + 1)
theorem upto_len (k : Nat) : (upto k).length = k := by simp [upto]
theorem upto_at {k j : Nat} (h : j < (upto k).length) : (upto k)[j] = (j : Int) + 1 := by simp [upto]
theorem upto_cells (k : Nat) : intCells (upto (k + 1)) = intCells (upto k) ++ [.int .i64 ((k : Int) + 1)] := by simp [upto, intCells, List.range_succ]
theorem upto_ok {k : Nat} (h0 : 0 < k) (h5 : k ≤ 5) : newOk (upto k) 2 = true := by
  rcases (show k = 1 ∨ k = 2 ∨ k = 3 ∨ k = 4 ∨ k = 5 by omega) with rfl | rfl | rfl | rfl | rfl <;> decide
theorem pickC_val (c n : Int) (hn : 0 < n) : c % n = if c.tmod n < 0 then c.tmod n + n else c.tmod n := by
  have h1 := Int.emod_nonneg c (show n ≠ 0 by omega)
  have h2 := Int.emod_lt_of_pos c hn
  have h3 := Int.tmod_eq_emod (a := c) (b := n)
  have h4 : (n.natAbs : Int) = n := by omega
  split at h3 <;> split <;> omega
set_option maxRecDepth 100000 in
theorem pickC_any (c n : Int) (w : World) (hn : 0 < n) (hn2 : n ≤ 9223372036854775807) :
    Calls Try.prog 14 #[.int .i64 c, .int .i64 n] w fun e w' => e = .returned (.int .i64 (c % n)) ∧ w' = w := by
  have hv := pickC_val c n hn
  have h1 := Int.emod_nonneg c (show n ≠ 0 by omega)
  have h2 := Int.emod_lt_of_pos c hn
  have hne : (n == 0) = false := by simp; omega
  by_cases hneg : c.tmod n < 0
  · rw [if_pos hneg] at hv
    have HV : Hid (c % n = c.tmod n + n) := hv
    rw [hv] at h1 h2
    clear hv
    go_enter Try.func14, Try.ntmps14
    go_wp2
    go_ret
    rw [HV.out]
    exact ⟨rfl, rfl⟩
  · rw [if_neg hneg] at hv
    have HV : Hid (c % n = c.tmod n) := hv
    rw [hv] at h1 h2
    clear hv
    go_enter Try.func14, Try.ntmps14
    go_wp2
    go_ret
    rw [HV.out]
    exact ⟨rfl, rfl⟩
theorem conv_oneC (w : World) (t : Nat) (ht : t < 256) :
    (convert 54 9 (.slice (some ⟨w.heap.size, 0, none⟩) 1 1)).run Try.prog (w.alloc (.cells #[.int .u8 t] 5)) = .ok (.string (bs [UInt8.ofNat t])) (w.alloc (.cells #[.int .u8 t] 5)) := by
  refine run_convert_bytes_back _ 54 9 5 ⟨w.heap.size, 0, none⟩ 1 [UInt8.ofNat t] Try.underlying54 Try.underlying5 Try.underlying9 ?_
  intro j hj
  obtain rfl : j = 0 := by simpa using hj
  have := blk_at (blk_new w (.cells #[.int .u8 t] 5)) 0 rfl
  simp [Addr.add, this]
  omega
theorem blk_new1C (w : World) (o : Obj) (cs : Array Value) (t : TypeId) : ((w.alloc o).alloc (.cells cs t)).heap[w.heap.size + 1]? = some (.cells cs t (0, 0)) := by
  have := blk_new (w.alloc o) (.cells cs t)
  simpa using this
theorem ansC_la {c : Cl} {n : Nat} {id er rk rver : Int} {rval : List UInt8} {ks : List (List UInt8)} : (ansC c n id er rk rval rver ks).la = c.la := by
  unfold ansC
  split
  · split
    · split
      · unfold openC
        split <;> rfl
      · rfl
    · split
      · split <;> rfl
      · rfl
  · rfl
theorem tickC_la {c : Cl} {n : Nat} : (tickC c n).la = c.la := by
  unfold tickC
  split
  · split <;> rfl
  · rfl
theorem doneC_la {c : Cl} : (doneC c).la = c.la := by
  unfold doneC
  split <;> rfl
theorem goes_next {c : Cl} : goes (nextC c) = false := by
  unfold nextC
  split
  · simp [goes]
  · rename_i h
    simpa using h
theorem next_next {c : Cl} : nextC (nextC c) = nextC c := by
  show (if goes (nextC c) then _ else _) = _
  rw [goes_next]
  rfl

end Go.Proofs.Ytbfleeilpccmcaa
