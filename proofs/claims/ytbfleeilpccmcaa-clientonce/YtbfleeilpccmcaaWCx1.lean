/-
  ClientExact: a script in memory; a step of any kind; numbers written over.
-/
import Derived.Test.YtbfleeilpccmcaaWCs3
import Derived.Test.YtbfleeilpccmcaaWCl5
namespace Go.Proofs.Ytbfleeilpccmcaa
open Go.RowKit

/-- A step of a script, and where its keys lie. -/
structure St where
  kd : Int
  id : Int
  ck : Int
  ckey : List UInt8
  cval : List UInt8
  ci : Int
  er : Int
  rk : Int
  rval : List UInt8
  rver : Int
  ks : List (List UInt8)
  ao : Option Addr
  cc : Nat
/-- A script that lies below block B. -/
def StRow (B : Nat) (w : World) (so : Option Addr) (ss : List St) : Prop := ∀ j, (hj : j < ss.length) → ∃ a, so = some a ∧ a.block < B ∧ (w.cell? (a.add (j * 11)) = some (.int .i64 ss[j].kd) ∧ w.cell? ⟨(a.add (j * 11)).block, (a.add (j * 11)).off + 1, none⟩ = some (.int .i64 ss[j].id) ∧ w.cell? ⟨(a.add (j * 11)).block, (a.add (j * 11)).off + 2, none⟩ = some (.int .i64 ss[j].ck) ∧ w.cell? ⟨(a.add (j * 11)).block, (a.add (j * 11)).off + 3, none⟩ = some (.string (bs ss[j].ckey)) ∧ w.cell? ⟨(a.add (j * 11)).block, (a.add (j * 11)).off + 4, none⟩ = some (.string (bs ss[j].cval)) ∧ w.cell? ⟨(a.add (j * 11)).block, (a.add (j * 11)).off + 5, none⟩ = some (.int .i64 ss[j].ci) ∧ w.cell? ⟨(a.add (j * 11)).block, (a.add (j * 11)).off + 6, none⟩ = some (.int .i64 ss[j].er) ∧ w.cell? ⟨(a.add (j * 11)).block, (a.add (j * 11)).off + 7, none⟩ = some (.int .i64 ss[j].rk) ∧ w.cell? ⟨(a.add (j * 11)).block, (a.add (j * 11)).off + 8, none⟩ = some (.string (bs ss[j].rval)) ∧ w.cell? ⟨(a.add (j * 11)).block, (a.add (j * 11)).off + 9, none⟩ = some (.int .i64 ss[j].rver) ∧ w.cell? ⟨(a.add (j * 11)).block, (a.add (j * 11)).off + 10, none⟩ = some (.slice ss[j].ao ss[j].ks.length ss[j].cc)) ∧ ss[j].ckey.length ≤ maxLen ∧ ss[j].cval.length ≤ maxLen ∧ KIn (fun k => k < B) w ss[j].ao ss[j].cc ss[j].ks
theorem StRow.nil {B : Nat} {w w' : World} {so : Option Addr} {ss : List St} (h : StRow B w so ss) (k : Kept Nil w w') : StRow B w' so ss := fun j hj => by
  obtain ⟨a, ha, hb, ⟨q0, q1, q2, q3, q4, q5, q6, q7, q8, q9, q10⟩, l1, l2, hk⟩ := h j hj
  exact ⟨a, ha, hb, ⟨cell_kept k (fun _ x => x) q0, cell_kept k (fun _ x => x) q1, cell_kept k (fun _ x => x) q2, cell_kept k (fun _ x => x) q3, cell_kept k (fun _ x => x) q4, cell_kept k (fun _ x => x) q5, cell_kept k (fun _ x => x) q6, cell_kept k (fun _ x => x) q7, cell_kept k (fun _ x => x) q8, cell_kept k (fun _ x => x) q9, cell_kept k (fun _ x => x) q10⟩, l1, l2, hk.kept k⟩
theorem step_any (w0 w : World) (i : Int) (b y cn kc cn2 : Nat) (c : Cl) (r : Rl) (l : List Int) (an ko an2 : Option Addr) (rks : List (List UInt8)) (s : St) (h : MX w0 w b y c r l an cn ko kc an2 cn2 rks) (p : PX i l.length c r rks) (hA : StA w0 w i l s.ckey s.cval s.ao s.cc s.ks) :
    Calls Try.prog 11 #[.pointer (some ⟨b, 0, none⟩), .pointer (some ⟨y, 0, none⟩), .agg #[.int .i64 s.kd, .int .i64 s.id, .int .i64 s.ck, .string (bs s.ckey), .string (bs s.cval), .int .i64 s.ci, .int .i64 s.er, .int .i64 s.rk, .string (bs s.rval), .int .i64 s.rver, .slice s.ao s.ks.length s.cc]] w (StepPost w0 i b y l an cn an2 cn2) := by
  rcases (show s.kd = 1 ∨ s.kd = 2 ∨ s.kd = 3 ∨ s.kd = 4 ∨ s.kd = 5 ∨ s.kd = 6 ∨ (s.kd ≠ 1 ∧ s.kd ≠ 2 ∧ s.kd ≠ 3 ∧ s.kd ≠ 4 ∧ s.kd ≠ 5 ∧ s.kd ≠ 6) by omega) with e | e | e | e | e | e | ⟨n1, n2, n3, n4, n5, n6⟩
  · rw [e]; exact step1 w0 w i b y cn kc cn2 s.cc c r l an ko an2 s.ao rks s.ks s.id s.ck s.ci s.er s.rk s.rver s.ckey s.cval s.rval h p hA
  · rw [e]; exact step2 w0 w i b y cn kc cn2 s.cc c r l an ko an2 s.ao rks s.ks s.id s.ck s.ci s.er s.rk s.rver s.ckey s.cval s.rval h p hA
  · rw [e]; exact step3 w0 w i b y cn kc cn2 s.cc c r l an ko an2 s.ao rks s.ks s.id s.ck s.ci s.er s.rk s.rver s.ckey s.cval s.rval h p hA
  · rw [e]; exact step4 w0 w i b y cn kc cn2 s.cc c r l an ko an2 s.ao rks s.ks s.id s.ck s.ci s.er s.rk s.rver s.ckey s.cval s.rval h p hA
  · rw [e]; exact step5 w0 w i b y cn kc cn2 s.cc c r l an ko an2 s.ao rks s.ks s.id s.ck s.ci s.er s.rk s.rver s.ckey s.cval s.rval h p hA
  · rw [e]; exact step6 w0 w i b y cn kc cn2 s.cc c r l an ko an2 s.ao rks s.ks s.id s.ck s.ci s.er s.rk s.rver s.ckey s.cval s.rval h p hA
  · exact step0 w0 w i b y cn kc cn2 s.cc c r l an ko an2 s.ao rks s.ks s.kd s.id s.ck s.ci s.er s.rk s.rver s.ckey s.cval s.rval h p hA n1 n2 n3 n4 n5 n6
theorem own_shrink {B n c : Nat} {e : TypeId} {w : World} {ao : Option Addr} {xs : List Value} (h : w.ownsRow B e 1 (.slice ao (n + 1) c) (n + 1) xs) : w.ownsRow B e 1 (.slice ao n c) n (xs.take n) := by
  have hl := h.1
  rcases h.2 with ⟨h1, h2⟩ | ⟨g, cap, cur, hv, hb, hh, h1, h2, h3, h4⟩
  · omega
  · simp only [Value.slice.injEq] at hv
    obtain ⟨rfl, _, rfl⟩ := hv
    refine ⟨by rw [List.length_take]; omega, .inr ⟨g, c, cur, rfl, hb, hh, by omega, h2, h3, ?_⟩⟩
    rw [← h4, List.take_take]
    congr 1
    omega
theorem src_int2 {w : World} (z y : Int) : Src Try.prog 1 22 (.slice (some ⟨w.heap.size, 0, none⟩) 2 2) 2 [.int .i64 z, .int .i64 y] (w.alloc (.cells #[.int .i64 z, .int .i64 y] 3)) := by
  refine Src.ofSlice _ Try.underlying22 _ 2 2 _ rfl ?_ ?_
  · intro j u hj
    match j, hj with
    | 0, hj | 1, hj =>
      simp at hj
      subst hj
      simp [Addr.add]
  · intro u hu
    simp at hu
    rcases hu with rfl | rfl <;> rfl
set_option maxRecDepth 100000 in
set_option maxHeartbeats 2000000 in
theorem overInts3_any (B c n : Nat) (ao : Option Addr) (l : List Value) (w : World) (h : w.ownsRow B 3 1 (.slice ao n c) n l) (hB : B ≤ w.heap.size) (hl : n ≤ 9) :
    Calls Try.prog 10 #[.slice ao n c] w fun e w' => e = .returned (.tuple #[]) ∧ w.grownBy w' (Value.slice ao n c).ownBlock := by
  obtain ⟨i0, hi, hz0, hz1, hz2⟩ := info_parts Try.infoInt
  have HO0 : Hid (w.ownsRow B 3 1 (.slice ao n c) n l) := h
  clear h
  go_enter Try.func10, Try.ntmps10
  go_wp2
  go_loopw [2] (fun i wr => ∃ k : Nat, ∃ ys : List Value, k ≤ n ∧ i = .int .i64 k ∧ Hid (wr.ownsRow B 3 1 (.slice ao n c) n ys) ∧ Hid (w.grownBy wr (Value.slice ao n c).ownBlock)) (fun i _ => n - (intOf i).toNat)
  case atStart => exact ⟨0, l, Nat.zero_le _, rfl, HO0.out, grown_reflK _ _⟩
  case round =>
    obtain ⟨k, ys, hk, rfl, HO, HG⟩ := hrel
    clear HO0
    rename World => wr
    by_cases hlt : k < n
    · obtain ⟨g, cs, rfl, hb, hcl⟩ := row_block HO.out (by omega)
      have hki : (k : Int) < n := by omega
      obtain ⟨u, hcell⟩ : ∃ u, wr.cell? ⟨g, k, none⟩ = some u := ⟨_, by rw [blk_cell hb, Array.getElem?_eq_getElem (by omega)]⟩
      have hfz : wr.frozen? ⟨g, k, none⟩ = false := blk_free hb k
      have HO2 : Hid ((wr.setCell ⟨g, k, none⟩ (.int .i64 (-7))).ownsRow B 3 1 (.slice (some ⟨g, 0, none⟩) n c) n (ys.set k (.int .i64 (-7)))) := own_setAtK HO.out k _
      have HG2 : Hid (w.grownBy (wr.setCell ⟨g, k, none⟩ (.int .i64 (-7))) (Value.slice (some ⟨g, 0, none⟩) n c).ownBlock) := grown_set HG.out _
      clear hb hcl
      go_wp2
      go_roundw
      case rel => exact ⟨k + 1, ys.set k (.int .i64 (-7)), by omega, by go_num, HO2.out, HG2.out⟩
      case measure => simp [intOf]; omega
    · have HLL : Hid (n + 2 ≤ maxLen ∧ (n + 2) * 8 ≤ 140737488355328) := by constructor; unfold maxLen; omega; omega
      have HSZ : Hid (B ≤ wr.heap.size) := Nat.le_trans hB HG.out.size
      have ho := HO.out
      go_wp2_with (first | (at_builtin; go_must (refine wpList_append_src _ rfl _ _ 22 22 rfl B 3 i0 (.int .i64 0) 1 8 Try.underlying22 hi hz0 hz1 hz2 rfl _ _ _ rfl (World.ownsRow.alloc ho _) (.slice (some ⟨wr.heap.size, 0, none⟩) 2 2) 2 [.int .i64 (-7), .int .i64 (-7)] rfl (src_int2 _ _) HLL.out.1 HLL.out.2 (le_alloc HSZ.out _) ?_); intro ao' c' w2 ho' hg'; have HG2 : Hid (w.grownBy w2 (Value.slice ao n c).ownBlock) := grown_transK (grown_allocK HG.out _) hg'; clear hg' ho'))
      go_end0
      exact ⟨rfl, HG2.out⟩
theorem new_yes (B cc : Nat) (ao : Option Addr) (l : List Int) (pat : Int) (w : World) (h : IntRow B w ao l) (hl : (l.length : Int) ≤ 9223372036854775807) (hok : newOk l pat = true) :
    Calls Try.prog 5 #[.slice ao l.length cc, .int .i64 pat] w fun e w' => ∃ b an cn, e = .returned (.tuple #[.pointer (some ⟨b, 0, none⟩), .int .i64 0]) ∧ ClAt w' b (newC pat) an l.length cn none 0 ∧ w'.ownsRow w.heap.size 3 1 (.slice an l.length cn) l.length (intCells l) ∧ w.heap.size ≤ b ∧ Kept Nil w w' :=
  (new_any B cc ao l pat w h hl).mono (fun e w' h9 => h9.elim (fun x => by rw [hok] at x; cases x.1) (fun x => x.2))
theorem new_no (B cc : Nat) (ao : Option Addr) (l : List Int) (pat : Int) (w : World) (h : IntRow B w ao l) (hl : (l.length : Int) ≤ 9223372036854775807) (hok : newOk l pat = false) :
    Calls Try.prog 5 #[.slice ao l.length cc, .int .i64 pat] w fun e w' => e = .returned (.tuple #[.pointer none, .int .i64 13]) ∧ w' = w :=
  (new_any B cc ao l pat w h hl).mono (fun e w' h9 => h9.elim (fun x => x.2) (fun x => by rw [hok] at x; cases x.1))
theorem rnew_yes (B cc : Nat) (ao : Option Addr) (l : List Int) (pat : Int) (w : World) (h : IntRow B w ao l) (hl : (l.length : Int) ≤ 9223372036854775807) (hok : newOk l pat = true) :
    Calls Try.prog 9 #[.slice ao l.length cc, .int .i64 pat] w fun e w' => ∃ y r, e = .returned (.tuple #[.pointer (some ⟨y, 0, none⟩), .int .i64 0]) ∧ RAt w' y r ao l.length cc ∧ Sim (newC pat) r ∧ r.ro = none ∧ r.rc = 0 ∧ w.heap.size ≤ y ∧ Kept Nil w w' :=
  (rnew_any B cc ao l pat w h hl).mono (fun e w' h9 => h9.elim (fun x => by rw [hok] at x; cases x.1) (fun x => x.2))
theorem rnew_no (B cc : Nat) (ao : Option Addr) (l : List Int) (pat : Int) (w : World) (h : IntRow B w ao l) (hl : (l.length : Int) ≤ 9223372036854775807) (hok : newOk l pat = false) :
    Calls Try.prog 9 #[.slice ao l.length cc, .int .i64 pat] w fun e w' => e = .returned (.tuple #[.pointer none, .int .i64 13]) ∧ Kept Nil w w' :=
  (rnew_any B cc ao l pat w h hl).mono (fun e w' h9 => h9.elim (fun x => x.2) (fun x => by rw [hok] at x; cases x.1))

end Go.Proofs.Ytbfleeilpccmcaa
