/-
  Joined: WCd2, WCd3.
-/
import Derived.Test.YtflnjlbafchnaaaGreatDoorQ16
import Derived.Deep.DeepCutAuto
import Derived.Deep.DeepFit
import Derived.BigQuiet
import Derived.BigRegion
/-
  Cells: a word, a number (the document's).
-/
namespace Go.Proofs.YtflnjlbafchnaaaGreatDoor
open Go.RowKit

theorem tw_step {l : List UInt8} {a k : Nat} (ha : a ≤ k) (hk : k < l.length) (hc : l[k] ≠ 32) : (l.drop a).take (k - a) ++ tw (l.drop k) = (l.drop a).take (k + 1 - a) ++ tw (l.drop (k + 1)) := by
  have e1 : tw (l.drop k) = l[k] :: tw (l.drop (k + 1)) := by
    rw [List.drop_eq_getElem_cons hk]
    unfold tw
    rw [List.takeWhile_cons, if_pos (by simp [hc])]
  have e2 : (l.drop a).take (k + 1 - a) = (l.drop a).take (k - a) ++ [l[k]] := by
    rw [show k + 1 - a = (k - a) + 1 by omega, List.take_add_one, List.getElem?_drop, show a + (k - a) = k by omega, List.getElem?_eq_getElem hk]
    rfl
  rw [e1, e2, List.append_assoc]
  rfl
theorem tw_stop {l : List UInt8} {k : Nat} (h : l.length ≤ k ∨ ∃ hk : k < l.length, l[k] = 32) : tw (l.drop k) = [] := by
  rcases h with h | ⟨hk, hc⟩
  · rw [List.drop_of_length_le h]; rfl
  · rw [List.drop_eq_getElem_cons hk, hc]
    simp [tw]
set_option maxRecDepth 100000 in
set_option maxHeartbeats 2000000 in
theorem refWordAt_any (l : List UInt8) (a : Nat) (ha : a ≤ l.length) (hl : (l.length : Int) ≤ 4611686018427387904) (w : World) :
    Calls Tryz.prog 161 #[.string (bs l), .int .i64 a] w fun e w' => ∃ k : Nat, e = .returned (.tuple #[.string (bs (tw (l.drop a))), .int .i64 k]) ∧ k = a + (tw (l.drop a)).length ∧ k ≤ l.length ∧ w' = w := by
  have hsz := bs_size l
  obtain ⟨T, HT⟩ : ∃ T, Hid (T = tw (l.drop a)) := ⟨_, rfl⟩
  rw [← HT.out]
  have ha0 : (0 : Int) ≤ a := by omega
  go_enter Tryz.func161, Tryz.ntmps161
  go_wp2
  go_loop [6] (fun u => ∃ k : Nat, a ≤ k ∧ k ≤ l.length ∧ u = .int .i64 k ∧ Hid (T = (l.drop a).take (k - a) ++ tw (l.drop k))) (fun u => l.length - (intOf u).toNat)
  case atStart => exact ⟨a, Nat.le_refl _, ha, rfl, by rw [HT.out, Nat.sub_self]; rfl⟩
  case round =>
    obtain ⟨k, hak, hk, rfl, HA⟩ := hrel
    have HE : Hid ((l.length ≤ k ∨ ∃ hk : k < l.length, l[k] = 32) → (bs l).extract a k = bs T ∧ k = a + T.length) := fun h => by
      have e := HA.out
      rw [tw_stop h, List.append_nil] at e
      refine ⟨by rw [bs_sub, ← e], ?_⟩
      rw [e, List.length_take, List.length_drop]
      omega
    have haki : (a : Int) ≤ k := by omega
    have hk0 : (0 : Int) ≤ k := by omega
    have hkl : (k : Int) ≤ l.length := by omega
    by_cases hlt : k < l.length
    · have hd : decide ((k : Int) < (l.length : Int)) = true := decide_eq_true (by omega)
      obtain ⟨c, hcl⟩ : ∃ c, l[k] = c := ⟨_, rfl⟩
      have hat : ∀ h, (bs l)[k]'h = c := fun h => (bs_at l k h).trans hcl
      by_cases hc : c = 32
      · obtain ⟨hext, hlen⟩ := HE.out (.inr ⟨hlt, by rw [hcl, hc]⟩)
        have HLN : Hid (k = a + T.length) := hlen
        subst hc
        clear hlen HE hcl
        go_wp2
        go_ret2
        exact ⟨k, rfl, HLN.out, hk, rfl⟩
      · have HB : Hid (T = (l.drop a).take (k + 1 - a) ++ tw (l.drop (k + 1))) := HA.out.trans (tw_step hak hlt (by rw [hcl]; exact hc))
        have hn : ¬ c.toNat = 32 := fun e => hc (by rw [← UInt8.toNat_inj]; exact e)
        have hb : ((c.toNat : Int) == 32) = false := by simp; omega
        have hb2 : ((c.toNat : Int) != 32) = true := by simp; omega
        clear HE hcl HA
        go_wp2
        go_round
        case rel => exact ⟨k + 1, by omega, by omega, by go_num, HB.out⟩
        case measure => simp [intOf]; omega
    · obtain rfl : k = l.length := by omega
      obtain ⟨hext, hlen⟩ := HE.out (.inl (Nat.le_refl _))
      have HLN : Hid (l.length = a + T.length) := hlen
      have hd : decide ((l.length : Int) < (l.length : Int)) = false := decide_eq_false (by omega)
      clear hlen HE
      go_wp2
      go_ret2
      exact ⟨l.length, rfl, HLN.out, Nat.le_refl _, rfl⟩
/-- A blank, and a number, at a place. -/
def NmPost (l : List UInt8) (a most : Nat) (w : World) (e : Ending) (w' : World) : Prop := ∃ (z : Int) (k : Nat), e = .returned (.tuple #[.int .i64 z, .int .i64 k]) ∧ ((∃ v : Nat, (nmD most (l.drop a)).1 = some v ∧ z = v ∧ k ≤ l.length ∧ l.drop k = (nmD most (l.drop a)).2) ∨ ((nmD most (l.drop a)).1 = none ∧ z = -1)) ∧ w' = w
theorem dw_drop {l : List UInt8} {a k : Nat} (hk : k = a + (tw (l.drop a)).length) : l.drop k = dw (l.drop a) := by
  have h1 : ∀ x y : List UInt8, (x ++ y).drop x.length = y := fun x y => by simp
  have h2 := h1 (tw (l.drop a)) (dw (l.drop a))
  rw [tw_dw, List.drop_drop] at h2
  rw [hk]
  exact h2
set_option maxRecDepth 100000 in
set_option maxHeartbeats 2000000 in
theorem refNumeral_any (l : List UInt8) (a most : Nat) (ha : a ≤ l.length) (hl : (l.length : Int) ≤ 4611686018427387904) (hm : most ≤ 999999999) (w : World) :
    Calls Tryz.prog 162 #[.string (bs l), .int .i64 a, .int .i64 most] w (NmPost l a most w) := by
  have hsz := bs_size l
  have ha0 : (0 : Int) ≤ a := by omega
  by_cases hlt : a < l.length
  · have hd : decide ((l.length : Int) ≤ (a : Int)) = false := decide_eq_false (by omega)
    have hai : (a : Int) < l.length := by omega
    obtain ⟨c, hcl⟩ : ∃ c, l[a] = c := ⟨_, rfl⟩
    have hat : ∀ h, (bs l)[a]'h = c := fun h => (bs_at l a h).trans hcl
    have hdr : l.drop a = c :: l.drop (a + 1) := by rw [List.drop_eq_getElem_cons hlt, hcl]
    by_cases hc : c = 32
    · subst hc
      have RW := refWordAt_any l (a + 1) (by omega) hl w
      have e1 : ((a + 1 : Nat) : Int) = (a : Int) + 1 := by omega
      rw [e1] at RW
      obtain ⟨T, HT⟩ : ∃ T, Hid (T = tw (l.drop (a + 1))) := ⟨_, rfl⟩
      rw [← HT.out] at RW
      have hTl : T.length ≤ l.length := by
        rw [HT.out]
        have := congrArg List.length (tw_dw (l.drop (a + 1)))
        rw [List.length_append, List.length_drop] at this
        omega
      have AM := refAmount_any T most (by unfold maxLen; omega) hm w
      have HF : Hid (∀ k : Nat, k = a + 1 + T.length → k ≤ l.length → NmPost l a most w (.returned (.tuple #[.int .i64 (amtZ most T), .int .i64 k])) w) := fun k hk hkl => by
        have hn : nmD most (l.drop a) = (amt most T, dw (l.drop (a + 1))) := by rw [hdr, HT.out]; show (if (32 : UInt8) = 32 then (amt most (tw (l.drop (a + 1))), dw (l.drop (a + 1))) else (none, 32 :: l.drop (a + 1))) = _; rw [if_pos rfl]
        refine ⟨amtZ most T, k, rfl, ?_, rfl⟩
        rw [hn]
        cases h : amt most T with
        | some v => exact .inl ⟨v, rfl, amtZ_some h, hkl, dw_drop (by rw [← HT.out]; exact hk)⟩
        | none => exact .inr ⟨rfl, amtZ_none h⟩
      clear hcl hdr e1 hTl
      go_enter Tryz.func162, Tryz.ntmps162
      go_wp2_with fail
      go_fit RW
      rintro ee w1 ⟨k, rfl, hk, hkl, hw1⟩
      rw [hw1]
      have HFK := HF.out k hk hkl
      have HFK2 : Hid (NmPost l a most w (.returned (.tuple #[.int .i64 (amtZ most T), .int .i64 k])) w) := HFK
      clear hw1 RW HF HFK hk hkl
      go_wp2_with fail
      go_fit AM
      rintro ee w2 ⟨rfl, hw2⟩
      rw [hw2]
      clear hw2 AM
      go_wp2
      go_ret2
      exact HFK2.out
    · have HF : Hid (NmPost l a most w (.returned (.tuple #[.int .i64 (-1), .int .i64 a])) w) := by
        have hn : nmD most (l.drop a) = (none, l.drop a) := by
          rw [hdr]
          exact if_neg hc
        refine ⟨-1, a, rfl, .inr ⟨by rw [hn], rfl⟩, rfl⟩
      have hn : ¬ c.toNat = 32 := fun e => hc (by rw [← UInt8.toNat_inj]; exact e)
      have hb : ((c.toNat : Int) == 32) = false := by simp; omega
      have hb2 : ((c.toNat : Int) != 32) = true := by simp; omega
      clear hcl hdr hc
      go_enter Tryz.func162, Tryz.ntmps162
      go_wp2
      go_ret2
      exact HF.out
  · have hd : decide ((l.length : Int) ≤ (a : Int)) = true := decide_eq_true (by omega)
    have hai : (l.length : Int) ≤ a := by omega
    have HF : Hid (NmPost l a most w (.returned (.tuple #[.int .i64 (-1), .int .i64 a])) w) := by
      have hn : l.drop a = [] := List.drop_of_length_le (by omega)
      refine ⟨-1, a, rfl, .inr ⟨by rw [hn]; rfl, rfl⟩, rfl⟩
    go_enter Tryz.func162, Tryz.ntmps162
    go_wp2
    go_ret2
    exact HF.out
end Go.Proofs.YtflnjlbafchnaaaGreatDoor

/-
  Cells: what a text says (the document's CellOf).
-/
namespace Go.Proofs.YtflnjlbafchnaaaGreatDoor
open Go.RowKit

def headIsC (n : Nat) : Code → Bool
  | .region k _ _ => k == n
  | .seq a _ => headIsC n a
  | .block _ c => headIsC n c
  | .loop c => headIsC n c
  | _ => false
/-- From the statement on that begins with a region. -/
def findTailC (n : Nat) : Code → Option Code
  | .seq a b => if headIsC n a then some (.seq a b) else match findTailC n a with
    | some c => some c
    | none => findTailC n b
  | .block _ c => findTailC n c
  | .loop c => findTailC n c
  | .cond _ a b => match findTailC n a with
    | some c => some c
    | none => findTailC n b
  | _ => none
noncomputable def oT11 : Code := (Tryz.f131.body.bind (findTailC 11)).getD .skip
noncomputable def oT18 : Code := (Tryz.f131.body.bind (findTailC 18)).getD .skip
def ccV (c : Ce) : Value := .agg #[.int .i64 c.s, .int .i64 c.h, .int .i64 c.g, .int .i64 c.n, .string (bs c.v)]
def CcAt (X : World) (C : Nat) (s h g n : Int) (v : List UInt8) : Prop := X.heap[C]? = some (.cells #[.int .i64 s, .int .i64 h, .int .i64 g, .int .i64 n, .string (bs v)] 140 (0, 0))
theorem CcAt.s0 {X : World} {C : Nat} {s h g n : Int} {v : List UInt8} (a : CcAt X C s h g n v) (x : Int) : CcAt (X.setCell ⟨C, 0, none⟩ (.int .i64 x)) C x h g n v := blk_set a 0 _
theorem CcAt.s1 {X : World} {C : Nat} {s h g n : Int} {v : List UInt8} (a : CcAt X C s h g n v) (x : Int) : CcAt (X.setCell ⟨C, 1, none⟩ (.int .i64 x)) C s x g n v := blk_set a 1 _
theorem CcAt.s2 {X : World} {C : Nat} {s h g n : Int} {v : List UInt8} (a : CcAt X C s h g n v) (x : Int) : CcAt (X.setCell ⟨C, 2, none⟩ (.int .i64 x)) C s h x n v := blk_set a 2 _
theorem CcAt.s3 {X : World} {C : Nat} {s h g n : Int} {v : List UInt8} (a : CcAt X C s h g n v) (x : Int) : CcAt (X.setCell ⟨C, 3, none⟩ (.int .i64 x)) C s h g x v := blk_set a 3 _
theorem CcAt.s4 {X : World} {C : Nat} {s h g n : Int} {v : List UInt8} (a : CcAt X C s h g n v) (x : List UInt8) : CcAt (X.setCell ⟨C, 4, none⟩ (.string (bs x))) C s h g n x := blk_set a 4 _
theorem CcAt.all {X : World} {C : Nat} {s h g n : Int} {v : List UInt8} (a : CcAt X C s h g n v) (s' h' g' n' : Int) (v' : List UInt8) : CcAt (((((X.setCell ⟨C, 0, none⟩ (.int .i64 s')).setCell ⟨C, 1, none⟩ (.int .i64 h')).setCell ⟨C, 2, none⟩ (.int .i64 g')).setCell ⟨C, 3, none⟩ (.int .i64 n')).setCell ⟨C, 4, none⟩ (.string (bs v'))) C s' h' g' n' v' := ((((a.s0 _).s1 _).s2 _).s3 _).s4 _
theorem CcAt.off {X : World} {C D : Nat} {s h g n : Int} {v : List UInt8} (a : CcAt X C s h g n v) (hD : D ≠ C) (i : Nat) (x : Value) : CcAt (X.setCell ⟨D, i, none⟩ x) C s h g n v :=
  ((Kept.refl (One D) X).setCell (p := ⟨D, i, none⟩) (fun _ => rfl) x).block _ _ a (fun e => hD (Eq.symm e))
/-- What CellOf says. -/
def CoPost (w : World) (l : List UInt8) (e : Ending) (w' : World) : Prop := (∃ c, ceD l = some c ∧ e = .returned (.tuple #[ccV c, .bool true]) ∧ Kept Nil w w') ∨ (ceD l = none ∧ e = .returned (.tuple #[ccV ⟨[], 0, 0, 0, 0⟩, .bool false]) ∧ Kept Nil w w')
/-- The two blocks of its own. -/
structure Cc2 (w X : World) (R C : Nat) (s h g n : Int) (v : List UInt8) : Prop where
  r : CcAt X R 0 0 0 0 []
  c : CcAt X C s h g n v
  kw : Kept Nil w X
  rw : w.heap.size ≤ R
  cw : w.heap.size ≤ C
  ne : R ≠ C
variable {w X : World} {R C : Nat} {s h g n : Int} {v : List UInt8}
theorem Cc2.s1 (a : Cc2 w X R C s h g n v) (x : Int) : Cc2 w (X.setCell ⟨C, 1, none⟩ (.int .i64 x)) R C s x g n v := ⟨a.r.off a.ne.symm 1 _, a.c.s1 x, a.kw.setNew (p := ⟨C, 1, none⟩) a.cw _, a.rw, a.cw, a.ne⟩
theorem Cc2.s2 (a : Cc2 w X R C s h g n v) (x : Int) : Cc2 w (X.setCell ⟨C, 2, none⟩ (.int .i64 x)) R C s h x n v := ⟨a.r.off a.ne.symm 2 _, a.c.s2 x, a.kw.setNew (p := ⟨C, 2, none⟩) a.cw _, a.rw, a.cw, a.ne⟩
theorem Cc2.s3 (a : Cc2 w X R C s h g n v) (x : Int) : Cc2 w (X.setCell ⟨C, 3, none⟩ (.int .i64 x)) R C s h g x v := ⟨a.r.off a.ne.symm 3 _, a.c.s3 x, a.kw.setNew (p := ⟨C, 3, none⟩) a.cw _, a.rw, a.cw, a.ne⟩
theorem Cc2.s4 (a : Cc2 w X R C s h g n v) (x : List UInt8) : Cc2 w (X.setCell ⟨C, 4, none⟩ (.string (bs x))) R C s h g n x := ⟨a.r.off a.ne.symm 4 _, a.c.s4 x, a.kw.setNew (p := ⟨C, 4, none⟩) a.cw _, a.rw, a.cw, a.ne⟩
theorem Cc2.ret (a : Cc2 w X R C s h g n v) (s' h' g' n' : Int) (v' : List UInt8) : CcAt (((((X.setCell ⟨R, 0, none⟩ (.int .i64 s')).setCell ⟨R, 1, none⟩ (.int .i64 h')).setCell ⟨R, 2, none⟩ (.int .i64 g')).setCell ⟨R, 3, none⟩ (.int .i64 n')).setCell ⟨R, 4, none⟩ (.string (bs v'))) R s' h' g' n' v' ∧ Kept Nil w (((((X.setCell ⟨R, 0, none⟩ (.int .i64 s')).setCell ⟨R, 1, none⟩ (.int .i64 h')).setCell ⟨R, 2, none⟩ (.int .i64 g')).setCell ⟨R, 3, none⟩ (.int .i64 n')).setCell ⟨R, 4, none⟩ (.string (bs v'))) :=
  ⟨a.r.all s' h' g' n' v', ((((a.kw.setNew (p := ⟨R, 0, none⟩) a.rw _).setNew (p := ⟨R, 1, none⟩) a.rw _).setNew (p := ⟨R, 2, none⟩) a.rw _).setNew (p := ⟨R, 3, none⟩) a.rw _).setNew (p := ⟨R, 4, none⟩) a.rw _⟩
set_option maxRecDepth 1000000 in
set_option maxHeartbeats 40000000 in
theorem oTail18 (w X : World) (R C k : Nat) (s h g : Nat) (l : List UInt8) (fv1 fv3 fv4 fv7 fv8 fv9 fv10 fv11 fv12 fv13 fv14 fv15 fv16 fv17 fv18 fv19 fv20 fv21 fv22 fv23 fv24 fv25 fv26 fv27 fv28 fv29 fv30 fv31 fv32 fv33 fv34 fv35 fv36 fv37 fv38 fv39 fv40 fv41 fv42 fv43 fv44 fv45 fv46 fv47 fv48 fv49 fv50 fv51 fv52 fv53 fv54 fv55 fv56 fv57 fv58 fv59 fv60 fv61 fv62 fv63 fv64 fv65 fv66 fv67 fv68 fv69 fv70 fv71 fv72 fv73 fv74 fv75 fv76 fv77 fv78 fv79 fv80 fv81 fv82 fv83 fv84 fv85 fv86 fv87 fv88 fv89 fv90 fv91 fv92 fv93 fv94 fv95 fv96 fv97 fv98 fv99 fv100 : Value)
    (HA : Hid (Cc2 w X R C s h g 0 [])) (HD : Hid (ceD l = tlD s h g (l.drop k))) (hk : k ≤ l.length) (hl : (l.length : Int) ≤ 4611686018427387904) (hs : s ≤ 2) :
    Code.wp Tryz.prog oT18 (bodyPost Tryz.prog Tryz.f131 (CoPost w l)) ⟨#[.string (bs l), fv1, .pointer (some ⟨R, 0, none⟩), fv3, fv4, .int .i64 k, .pointer (some ⟨C, 0, none⟩), fv7, fv8, fv9, fv10, fv11, fv12, fv13, fv14, fv15, fv16, fv17, fv18, fv19, fv20, fv21, fv22, fv23, fv24, fv25, fv26, fv27, fv28, fv29, fv30, fv31, fv32, fv33, fv34, fv35, fv36, fv37, fv38, fv39, fv40, fv41, fv42, fv43, fv44, fv45, fv46, fv47, fv48, fv49, fv50, fv51, fv52, fv53, fv54, fv55, fv56, fv57, fv58, fv59, fv60, fv61, fv62, fv63, fv64, fv65, fv66, fv67, fv68, fv69, fv70, fv71, fv72, fv73, fv74, fv75, fv76, fv77, fv78, fv79, fv80, fv81, fv82, fv83, fv84, fv85, fv86, fv87, fv88, fv89, fv90, fv91, fv92, fv93, fv94, fv95, fv96, fv97, fv98, fv99, fv100], []⟩ X := by
  conv => arg 2; whnf
  dsimp only
  have hsz := bs_size l
  have hRC : R ≠ C := HA.out.ne
  have hCR : C ≠ R := fun e => hRC e.symm
  have hk0 : (0 : Int) ≤ k := by omega
  have hkl : (k : Int) ≤ l.length := by omega
  have m0 : X.cell? ⟨R, 0, none⟩ = some (.int .i64 0) := blk_at HA.out.r 0 rfl
  have m1 : X.cell? ⟨R, 1, none⟩ = some (.int .i64 0) := blk_at HA.out.r 1 rfl
  have m2 : X.cell? ⟨R, 2, none⟩ = some (.int .i64 0) := blk_at HA.out.r 2 rfl
  have m3 : X.cell? ⟨R, 3, none⟩ = some (.int .i64 0) := blk_at HA.out.r 3 rfl
  have m4 : X.cell? ⟨R, 4, none⟩ = some (.string ⟨#[]⟩) := blk_at HA.out.r 4 rfl
  have o0 := blk_free HA.out.r 0
  have o1 := blk_free HA.out.r 1
  have o2 := blk_free HA.out.r 2
  have o3 := blk_free HA.out.r 3
  have o4 := blk_free HA.out.r 4
  have c0 : X.cell? ⟨C, 0, none⟩ = some (.int .i64 s) := blk_at HA.out.c 0 rfl
  have c1 : X.cell? ⟨C, 1, none⟩ = some (.int .i64 h) := blk_at HA.out.c 1 rfl
  have c2 : X.cell? ⟨C, 2, none⟩ = some (.int .i64 g) := blk_at HA.out.c 2 rfl
  have c3 : X.cell? ⟨C, 3, none⟩ = some (.int .i64 0) := blk_at HA.out.c 3 rfl
  have c4 : X.cell? ⟨C, 4, none⟩ = some (.string (bs [])) := blk_at HA.out.c 4 rfl
  by_cases he : k = l.length
  · have HN : Hid (ceD l = some ⟨[], 0, s, h, g⟩) := by
      show _ = _
      rw [HD.out]
      unfold tlD
      rw [if_pos (by rw [he]; exact List.drop_of_length_le (Nat.le_refl _))]
    subst he
    clear HD
    obtain ⟨Y, hY⟩ : ∃ Y, Y = (((((X.setCell ⟨R, 0, none⟩ (.int .i64 s)).setCell ⟨R, 1, none⟩ (.int .i64 h)).setCell ⟨R, 2, none⟩ (.int .i64 g)).setCell ⟨R, 3, none⟩ (.int .i64 0)).setCell ⟨R, 4, none⟩ (.string (bs []))) := ⟨_, rfl⟩
    have HY : Hid (CcAt Y R s h g 0 [] ∧ Kept Nil w Y) := by rw [hY]; exact HA.out.ret s h g 0 []
    go_wp2
    rw [← hY]
    have j0 := blk_at HY.out.1 0 rfl
    have j1 := blk_at HY.out.1 1 rfl
    have j2 := blk_at HY.out.1 2 rfl
    have j3 := blk_at HY.out.1 3 rfl
    have j4 := blk_at HY.out.1 4 rfl
    exact bodyPost_ret (v := .tuple #[ccV ⟨[], 0, s, h, g⟩, .bool true]) (by simp [results, Tryz.results131, go_sem, j0, j1, j2, j3, j4, ccV]) rfl (.inl ⟨_, HN.out, rfl, HY.out.2⟩)
  · have hne : ((k : Int) == (l.length : Int)) = false := by simp; omega
    have hne2 : ¬ (k : Int) = l.length := by omega
    have hnil : l.drop k ≠ [] := fun e => he (by have := congrArg List.length e; simp at this; omega)
    have NM := refNumeral_any l k 999999 hk hl (by omega) X
    clear he
    go_wp2_with fail
    go_fit NM
    rintro ee w1 ⟨z, k2, rfl, hz, hw1⟩
    rw [hw1]
    clear hw1 NM
    have f3 := blk_free HA.out.c 3
    obtain ⟨X1, hX1⟩ : ∃ Y, Y = X.setCell ⟨C, 3, none⟩ (.int .i64 z) := ⟨_, rfl⟩
    have HB : Hid (Cc2 w X1 R C s h g z []) := by rw [hX1]; exact HA.out.s3 z
    have HZ : Hid ((∃ v : Nat, (nmD 999999 (l.drop k)).1 = some v ∧ z = v ∧ k2 ≤ l.length ∧ l.drop k2 = (nmD 999999 (l.drop k)).2) ∨ ((nmD 999999 (l.drop k)).1 = none ∧ z = -1)) := hz
    clear hz
    go_upto_region 21 with fail
    rw [← hX1]
    clear hX1 m0 o0 c0 m1 o1 c1 m2 o2 c2 m3 o3 c3 m4 o4 c4 f3
    have m0 : X1.cell? ⟨R, 0, none⟩ = some (.int .i64 0) := blk_at HB.out.r 0 rfl
    have m1 : X1.cell? ⟨R, 1, none⟩ = some (.int .i64 0) := blk_at HB.out.r 1 rfl
    have m2 : X1.cell? ⟨R, 2, none⟩ = some (.int .i64 0) := blk_at HB.out.r 2 rfl
    have m3 : X1.cell? ⟨R, 3, none⟩ = some (.int .i64 0) := blk_at HB.out.r 3 rfl
    have m4 : X1.cell? ⟨R, 4, none⟩ = some (.string ⟨#[]⟩) := blk_at HB.out.r 4 rfl
    have o0 := blk_free HB.out.r 0
    have o1 := blk_free HB.out.r 1
    have o2 := blk_free HB.out.r 2
    have o3 := blk_free HB.out.r 3
    have o4 := blk_free HB.out.r 4
    have c0 : X1.cell? ⟨C, 0, none⟩ = some (.int .i64 s) := blk_at HB.out.c 0 rfl
    have c1 : X1.cell? ⟨C, 1, none⟩ = some (.int .i64 h) := blk_at HB.out.c 1 rfl
    have c2 : X1.cell? ⟨C, 2, none⟩ = some (.int .i64 g) := blk_at HB.out.c 2 rfl
    have c3 : X1.cell? ⟨C, 3, none⟩ = some (.int .i64 z) := blk_at HB.out.c 3 rfl
    have c4 : X1.cell? ⟨C, 4, none⟩ = some (.string (bs [])) := blk_at HB.out.c 4 rfl
    rcases HZ.out with ⟨v, hv1, hv2, hv3, hv4⟩ | ⟨hv1, hv2⟩
    · subst hv2
      obtain ⟨r3, Hr3⟩ : ∃ r, Hid (r = l.drop k2) := ⟨_, rfl⟩
      have HD2 : Hid (ceD l = if v < 1 ∨ s = 2 ∨ r3.take 2 ≠ [32, 61] ∨ 34 < r3.length then none else some ⟨r3.drop 2, v, s, h, g⟩) := by
        show _ = _
        rw [HD.out]
        unfold tlD
        rw [if_neg hnil, hv1]
        simp only
        rw [← hv4, ← Hr3.out]
      have hr3l : r3.length = l.length - k2 := by rw [Hr3.out, List.length_drop]
      have hk20 : (0 : Int) ≤ k2 := by omega
      clear hv1 hv4 hnil HD HZ
      by_cases b1 : v < 1
      · have HN : Hid (ceD l = none) := HD2.out.trans (if_pos (.inl b1))
        have b1i : (v : Int) < 1 := by omega
        have b1d : decide ((v : Int) < 1) = true := decide_eq_true b1i
        obtain ⟨Y, hY⟩ : ∃ Y, Y = (((((X1.setCell ⟨R, 0, none⟩ (.int .i64 0)).setCell ⟨R, 1, none⟩ (.int .i64 0)).setCell ⟨R, 2, none⟩ (.int .i64 0)).setCell ⟨R, 3, none⟩ (.int .i64 0)).setCell ⟨R, 4, none⟩ (.string ⟨#[]⟩)) := ⟨_, rfl⟩
        have HY : Hid (CcAt Y R 0 0 0 0 [] ∧ Kept Nil w Y) := by rw [hY]; exact HB.out.ret 0 0 0 0 []
        go_wp2
        rw [← hY]
        have j0 := blk_at HY.out.1 0 rfl
        have j1 := blk_at HY.out.1 1 rfl
        have j2 := blk_at HY.out.1 2 rfl
        have j3 := blk_at HY.out.1 3 rfl
        have j4 := blk_at HY.out.1 4 rfl
        exact bodyPost_ret (v := .tuple #[ccV ⟨[], 0, 0, 0, 0⟩, .bool false]) (by simp [results, Tryz.results131, go_sem, j0, j1, j2, j3, j4, ccV]) rfl (.inr ⟨HN.out, rfl, HY.out.2⟩)
      · have b1i : ¬ (v : Int) < 1 := by omega
        have b1d : decide ((v : Int) < 1) = false := decide_eq_false b1i
        by_cases b2 : s = 2
        · have HN : Hid (ceD l = none) := HD2.out.trans (if_pos (.inr (.inl b2)))
          have b2d : ((s : Int) == 2) = true := by simp; omega
          subst b2
          obtain ⟨Y, hY⟩ : ∃ Y, Y = (((((X1.setCell ⟨R, 0, none⟩ (.int .i64 0)).setCell ⟨R, 1, none⟩ (.int .i64 0)).setCell ⟨R, 2, none⟩ (.int .i64 0)).setCell ⟨R, 3, none⟩ (.int .i64 0)).setCell ⟨R, 4, none⟩ (.string ⟨#[]⟩)) := ⟨_, rfl⟩
          have HY : Hid (CcAt Y R 0 0 0 0 [] ∧ Kept Nil w Y) := by rw [hY]; exact HB.out.ret 0 0 0 0 []
          go_wp2
          rw [← hY]
          have j0 := blk_at HY.out.1 0 rfl
          have j1 := blk_at HY.out.1 1 rfl
          have j2 := blk_at HY.out.1 2 rfl
          have j3 := blk_at HY.out.1 3 rfl
          have j4 := blk_at HY.out.1 4 rfl
          exact bodyPost_ret (v := .tuple #[ccV ⟨[], 0, 0, 0, 0⟩, .bool false]) (by simp [results, Tryz.results131, go_sem, j0, j1, j2, j3, j4, ccV]) rfl (.inr ⟨HN.out, rfl, HY.out.2⟩)
        · have b2d : ((s : Int) == 2) = false := by simp; omega
          by_cases b3 : l.length < k2 + 2
          · have HN : Hid (ceD l = none) := HD2.out.trans (if_pos (.inr (.inr (.inl (fun e => by have := congrArg List.length e; rw [List.length_take] at this; simp at this; omega)))))
            have b3i : (l.length : Int) < (k2 : Int) + 2 := by omega
            have b3d : decide ((l.length : Int) < (k2 : Int) + 2) = true := decide_eq_true b3i
            obtain ⟨Y, hY⟩ : ∃ Y, Y = (((((X1.setCell ⟨R, 0, none⟩ (.int .i64 0)).setCell ⟨R, 1, none⟩ (.int .i64 0)).setCell ⟨R, 2, none⟩ (.int .i64 0)).setCell ⟨R, 3, none⟩ (.int .i64 0)).setCell ⟨R, 4, none⟩ (.string ⟨#[]⟩)) := ⟨_, rfl⟩
            have HY : Hid (CcAt Y R 0 0 0 0 [] ∧ Kept Nil w Y) := by rw [hY]; exact HB.out.ret 0 0 0 0 []
            go_wp2
            rw [← hY]
            have j0 := blk_at HY.out.1 0 rfl
            have j1 := blk_at HY.out.1 1 rfl
            have j2 := blk_at HY.out.1 2 rfl
            have j3 := blk_at HY.out.1 3 rfl
            have j4 := blk_at HY.out.1 4 rfl
            exact bodyPost_ret (v := .tuple #[ccV ⟨[], 0, 0, 0, 0⟩, .bool false]) (by simp [results, Tryz.results131, go_sem, j0, j1, j2, j3, j4, ccV]) rfl (.inr ⟨HN.out, rfl, HY.out.2⟩)
          · have b3i : ¬ (l.length : Int) < (k2 : Int) + 2 := by omega
            have b3d : decide ((l.length : Int) < (k2 : Int) + 2) = false := decide_eq_false b3i
            have b3l : (k2 : Int) + 2 ≤ l.length := by omega
            have hext : (bs l).extract k2 (k2 + 2) = bs (r3.take 2) := by rw [bs_sub, Hr3.out, show k2 + 2 - k2 = 2 by omega]
            have hto : ((k2 : Int) + 2).toNat = k2 + 2 := by omega
            by_cases b4 : r3.take 2 = [32, 61]
            · have b4d : ((bs (r3.take 2)).toList == [32, 61]) = true := by rw [bs_toList, b4]; rfl
              have b4e : ((bs (r3.take 2)).toList != [32, 61]) = false := by rw [bs_toList, b4]; rfl
              have b5w : (l.length : Int) - (k2 : Int) - 2 = (r3.length : Int) - 2 := by omega
              by_cases b5 : 34 < r3.length
              · have HN : Hid (ceD l = none) := HD2.out.trans (if_pos (.inr (.inr (.inr b5))))
                have b5i : (32 : Int) < (l.length : Int) - (k2 : Int) - 2 := by omega
                have b5d : decide ((32 : Int) < (l.length : Int) - (k2 : Int) - 2) = true := decide_eq_true b5i
                clear HD2 b4 b5w
                obtain ⟨Y, hY⟩ : ∃ Y, Y = (((((X1.setCell ⟨R, 0, none⟩ (.int .i64 0)).setCell ⟨R, 1, none⟩ (.int .i64 0)).setCell ⟨R, 2, none⟩ (.int .i64 0)).setCell ⟨R, 3, none⟩ (.int .i64 0)).setCell ⟨R, 4, none⟩ (.string ⟨#[]⟩)) := ⟨_, rfl⟩
                have HY : Hid (CcAt Y R 0 0 0 0 [] ∧ Kept Nil w Y) := by rw [hY]; exact HB.out.ret 0 0 0 0 []
                go_wp2
                rw [← hY]
                have j0 := blk_at HY.out.1 0 rfl
                have j1 := blk_at HY.out.1 1 rfl
                have j2 := blk_at HY.out.1 2 rfl
                have j3 := blk_at HY.out.1 3 rfl
                have j4 := blk_at HY.out.1 4 rfl
                exact bodyPost_ret (v := .tuple #[ccV ⟨[], 0, 0, 0, 0⟩, .bool false]) (by simp [results, Tryz.results131, go_sem, j0, j1, j2, j3, j4, ccV]) rfl (.inr ⟨HN.out, rfl, HY.out.2⟩)
              · have HN : Hid (ceD l = some ⟨r3.drop 2, v, s, h, g⟩) := HD2.out.trans (if_neg (by rintro (a | a | a | a); exact b1 a; exact b2 a; exact a b4; exact b5 a))
                have b5i : ¬ (32 : Int) < (l.length : Int) - (k2 : Int) - 2 := by omega
                have b5d : decide ((32 : Int) < (l.length : Int) - (k2 : Int) - 2) = false := decide_eq_false b5i
                obtain ⟨u, Hu⟩ : ∃ u, Hid (u = r3.drop 2) := ⟨_, rfl⟩
                rw [← Hu.out] at HN
                have hext2 : (bs l).extract (k2 + 2) l.length = bs u := by rw [bs_sub, Hu.out, Hr3.out, List.drop_drop, List.take_of_length_le (by rw [List.length_drop]; omega)]
                have f4 := blk_free HB.out.c 4
                obtain ⟨X2, hX2⟩ : ∃ Y, Y = X1.setCell ⟨C, 4, none⟩ (.string (bs u)) := ⟨_, rfl⟩
                have HE : Hid (Cc2 w X2 R C s h g v u) := by rw [hX2]; exact HB.out.s4 u
                clear HD2 b4 b5w
                go_upto_region 24 with fail
                rw [← hX2]
                clear hX2 m0 o0 c0 m1 o1 c1 m2 o2 c2 m3 o3 c3 m4 o4 c4 f4
                have m0 : X2.cell? ⟨R, 0, none⟩ = some (.int .i64 0) := blk_at HE.out.r 0 rfl
                have m1 : X2.cell? ⟨R, 1, none⟩ = some (.int .i64 0) := blk_at HE.out.r 1 rfl
                have m2 : X2.cell? ⟨R, 2, none⟩ = some (.int .i64 0) := blk_at HE.out.r 2 rfl
                have m3 : X2.cell? ⟨R, 3, none⟩ = some (.int .i64 0) := blk_at HE.out.r 3 rfl
                have m4 : X2.cell? ⟨R, 4, none⟩ = some (.string ⟨#[]⟩) := blk_at HE.out.r 4 rfl
                have o0 := blk_free HE.out.r 0
                have o1 := blk_free HE.out.r 1
                have o2 := blk_free HE.out.r 2
                have o3 := blk_free HE.out.r 3
                have o4 := blk_free HE.out.r 4
                have c0 : X2.cell? ⟨C, 0, none⟩ = some (.int .i64 s) := blk_at HE.out.c 0 rfl
                have c1 : X2.cell? ⟨C, 1, none⟩ = some (.int .i64 h) := blk_at HE.out.c 1 rfl
                have c2 : X2.cell? ⟨C, 2, none⟩ = some (.int .i64 g) := blk_at HE.out.c 2 rfl
                have c3 : X2.cell? ⟨C, 3, none⟩ = some (.int .i64 v) := blk_at HE.out.c 3 rfl
                have c4 : X2.cell? ⟨C, 4, none⟩ = some (.string (bs u)) := blk_at HE.out.c 4 rfl
                obtain ⟨Y, hY⟩ : ∃ Y, Y = (((((X2.setCell ⟨R, 0, none⟩ (.int .i64 s)).setCell ⟨R, 1, none⟩ (.int .i64 h)).setCell ⟨R, 2, none⟩ (.int .i64 g)).setCell ⟨R, 3, none⟩ (.int .i64 v)).setCell ⟨R, 4, none⟩ (.string (bs u))) := ⟨_, rfl⟩
                have HY : Hid (CcAt Y R s h g v u ∧ Kept Nil w Y) := by rw [hY]; exact HE.out.ret s h g v u
                go_wp2
                rw [← hY]
                have j0 := blk_at HY.out.1 0 rfl
                have j1 := blk_at HY.out.1 1 rfl
                have j2 := blk_at HY.out.1 2 rfl
                have j3 := blk_at HY.out.1 3 rfl
                have j4 := blk_at HY.out.1 4 rfl
                exact bodyPost_ret (v := .tuple #[ccV ⟨u, v, s, h, g⟩, .bool true]) (by simp [results, Tryz.results131, go_sem, j0, j1, j2, j3, j4, ccV]) rfl (.inl ⟨_, HN.out, rfl, HY.out.2⟩)
            · have HN : Hid (ceD l = none) := HD2.out.trans (if_pos (.inr (.inr (.inl b4))))
              have b4d : ((bs (r3.take 2)).toList == [32, 61]) = false := by
                rw [bs_toList]
                simp only [beq_eq_false_iff_ne, ne_eq]
                exact b4
              have b4e : ((bs (r3.take 2)).toList != [32, 61]) = true := by
                rw [bs_toList]
                simp only [bne_iff_ne, ne_eq]
                exact b4
              clear HD2 b4
              obtain ⟨Y, hY⟩ : ∃ Y, Y = (((((X1.setCell ⟨R, 0, none⟩ (.int .i64 0)).setCell ⟨R, 1, none⟩ (.int .i64 0)).setCell ⟨R, 2, none⟩ (.int .i64 0)).setCell ⟨R, 3, none⟩ (.int .i64 0)).setCell ⟨R, 4, none⟩ (.string ⟨#[]⟩)) := ⟨_, rfl⟩
              have HY : Hid (CcAt Y R 0 0 0 0 [] ∧ Kept Nil w Y) := by rw [hY]; exact HB.out.ret 0 0 0 0 []
              go_wp2
              rw [← hY]
              have j0 := blk_at HY.out.1 0 rfl
              have j1 := blk_at HY.out.1 1 rfl
              have j2 := blk_at HY.out.1 2 rfl
              have j3 := blk_at HY.out.1 3 rfl
              have j4 := blk_at HY.out.1 4 rfl
              exact bodyPost_ret (v := .tuple #[ccV ⟨[], 0, 0, 0, 0⟩, .bool false]) (by simp [results, Tryz.results131, go_sem, j0, j1, j2, j3, j4, ccV]) rfl (.inr ⟨HN.out, rfl, HY.out.2⟩)
    · have HN : Hid (ceD l = none) := by
        show _ = _
        rw [HD.out]
        unfold tlD
        rw [if_neg hnil, hv1]
      subst hv2
      clear HD HZ hnil hv1
      obtain ⟨Y, hY⟩ : ∃ Y, Y = (((((X1.setCell ⟨R, 0, none⟩ (.int .i64 0)).setCell ⟨R, 1, none⟩ (.int .i64 0)).setCell ⟨R, 2, none⟩ (.int .i64 0)).setCell ⟨R, 3, none⟩ (.int .i64 0)).setCell ⟨R, 4, none⟩ (.string ⟨#[]⟩)) := ⟨_, rfl⟩
      have HY : Hid (CcAt Y R 0 0 0 0 [] ∧ Kept Nil w Y) := by rw [hY]; exact HB.out.ret 0 0 0 0 []
      go_wp2
      rw [← hY]
      have j0 := blk_at HY.out.1 0 rfl
      have j1 := blk_at HY.out.1 1 rfl
      have j2 := blk_at HY.out.1 2 rfl
      have j3 := blk_at HY.out.1 3 rfl
      have j4 := blk_at HY.out.1 4 rfl
      exact bodyPost_ret (v := .tuple #[ccV ⟨[], 0, 0, 0, 0⟩, .bool false]) (by simp [results, Tryz.results131, go_sem, j0, j1, j2, j3, j4, ccV]) rfl (.inr ⟨HN.out, rfl, HY.out.2⟩)
end Go.Proofs.YtflnjlbafchnaaaGreatDoor
