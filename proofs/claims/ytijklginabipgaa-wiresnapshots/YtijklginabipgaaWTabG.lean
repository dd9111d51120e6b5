/-
  What the document's GetTable rests on: readings by their runs, and the table in its box with its rows.
  GetTable by the document's answer: the same plain answer as the program's.
-/
import Derived.Test.YtijklginabipgaaWTab20
import Derived.Test.YtijklginabipgaaWTab6
import Derived.Test.YtijklginabipgaaWOlk
import Derived.Deep.CutBlock
import Derived.Deep.CutRange
import Derived.Deep.LoopGhost
namespace Go.Proofs.Ytijklginabipgaa
open Go.RowKit

theorem refNumR {b : Nat} {st s' : Except Int (List UInt8)} {x : Nat} {w : World} (h : RSt b w st) (e : stRun rdNum 0 st = (x, s')) :
    Calls Try.prog 112 #[.pointer (some ⟨b, 0, none⟩)] w fun e w' => e = .returned (.int .i64 x) ∧ RSt b w' s' ∧ Kept (One b) w w' := by
  have H := refNumber_any b st w h
  rw [e] at H
  exact H
theorem refTextR {b most : Nat} {st s' : Except Int (List UInt8)} {x : List UInt8} {w : World} (h : RSt b w st) (e : stRun (rdText most) [] st = (x, s')) :
    Calls Try.prog 114 #[.pointer (some ⟨b, 0, none⟩), .int .i64 most] w fun e w' => e = .returned (.string (bs x)) ∧ RSt b w' s' ∧ Kept (One b) w w' := by
  have H := refText_any b most st w h
  rw [e] at H
  exact H
theorem refUpToR {b most : Nat} {st s' : Except Int (List UInt8)} {x : Nat} {w : World} (h : RSt b w st) (e : stRun (rdUpTo most) 0 st = (x, s')) :
    Calls Try.prog 113 #[.pointer (some ⟨b, 0, none⟩), .int .i64 most] w fun e w' => e = .returned (.int .i64 x) ∧ RSt b w' s' ∧ Kept (One b) w w' := by
  have H := refUpTo_any b most st w h
  rw [e] at H
  exact H
theorem run_ex {α : Type} (rd : List UInt8 → Except Int (α × List UInt8)) (d : α) (st : Except Int (List UInt8)) : ∃ x s', stRun rd d st = (x, s') := ⟨_, _, rfl⟩
theorem upToR_le {most n : Nat} {st s' : Except Int (List UInt8)} (e : stRun (rdUpTo most) 0 st = (n, s')) : n ≤ most := by
  have := stUpTo_le most st
  rw [e] at this
  exact this
theorem textR_le {most : Nat} {x : List UInt8} {st s' : Except Int (List UInt8)} (e : stRun (rdText most) [] st = (x, s')) : x.length ≤ most := by
  have := stText_le most st
  rw [e] at this
  exact this

/-- A pair, read by its runs. -/
theorem prRun {st s1 s2 s3 : Except Int (List UInt8)} {k v : List UInt8} {n : Nat} (h1 : stRun (rdText 16) [] st = (k, s1)) (h2 : stRun (rdText 64) [] s1 = (v, s2)) (h3 : stRun rdNum 0 s2 = (n, s3)) :
    GoodV rdPr st ⟨k, v, (n : Int)⟩ ∧ s3 = stAfter rdPr st := by
  constructor
  · refine GoodV_then (rdText 16) _ [] st _ ?_
    rw [h1]
    refine GoodV_then (rdText 64) _ [] s1 _ ?_
    rw [h2]
    refine GoodV_then rdNum _ 0 s2 _ ?_
    rw [h3]
    exact GoodV_all _ _
  · symm
    refine (stAfter_then (rdText 16) _ [] st).trans ?_
    rw [h1]
    refine (stAfter_then (rdText 64) _ [] s1).trans ?_
    rw [h2]
    refine (stAfter_then rdNum _ 0 s2).trans ?_
    rw [h3]
    exact stAfter_all _ _
/-- A session, read by its runs. -/
theorem ssRun {st s1 s2 s3 s4 s5 s6 s7 : Except Int (List UInt8)} {cl ls sn kd ver : Nat} {val : List UInt8} {ks : List (List UInt8)} (h1 : stRun rdNum 0 st = (cl, s1)) (h2 : stRun rdNum 0 s1 = (ls, s2)) (h3 : stRun rdNum 0 s2 = (sn, s3)) (h4 : stRun rdNum 0 s3 = (kd, s4)) (h5 : stRun (rdText 64) [] s4 = (val, s5)) (h6 : stRun rdNum 0 s5 = (ver, s6)) (h7 : stAfter (rdKeys 32) s6 = s7) (g7 : GoodV (rdKeys 32) s6 ks) :
    GoodV rdSs st ⟨(cl : Int), (ls : Int), (kd : Int), val, (ver : Int), ks, (sn : Int)⟩ ∧ s7 = stAfter rdSs st := by
  have hr := GoodV.run g7
  rw [h7] at hr
  have q1 : GoodV rdRs s3 ⟨kd, val, ver, ks⟩ := by
    refine GoodV_then rdNum _ 0 s3 _ ?_
    rw [h4]
    refine GoodV_then (rdText 64) _ [] s4 _ ?_
    rw [h5]
    refine GoodV_then rdNum _ 0 s5 _ ?_
    rw [h6]
    refine GoodV_then (rdKeys 32) _ ks s6 _ ?_
    rw [hr]
    exact GoodV_all _ _
  have q2 : stAfter rdRs s3 = s7 := by
    refine (stAfter_then rdNum _ 0 s3).trans ?_
    rw [h4]
    refine (stAfter_then (rdText 64) _ [] s4).trans ?_
    rw [h5]
    refine (stAfter_then rdNum _ 0 s5).trans ?_
    rw [h6]
    refine (stAfter_then (rdKeys 32) _ ks s6).trans ?_
    rw [hr]
    exact stAfter_all _ _
  have q3 := GoodV.run q1
  rw [q2] at q3
  constructor
  · refine GoodV_then rdNum _ 0 st _ ?_
    rw [h1]
    refine GoodV_then rdNum _ 0 s1 _ ?_
    rw [h2]
    refine GoodV_then rdNum _ 0 s2 _ ?_
    rw [h3]
    refine GoodV_then rdRs _ ⟨kd, val, ver, ks⟩ s3 _ ?_
    rw [q3]
    exact GoodV_all _ _
  · symm
    refine (stAfter_then rdNum _ 0 st).trans ?_
    rw [h1]
    refine (stAfter_then rdNum _ 0 s1).trans ?_
    rw [h2]
    refine (stAfter_then rdNum _ 0 s2).trans ?_
    rw [h3]
    refine (stAfter_then rdRs _ ⟨kd, val, ver, ks⟩ s3).trans ?_
    rw [q3]
    exact stAfter_all _ _
/-- A table, read by its runs. -/
theorem tbRun {st s1 s2 s3 : Except Int (List UInt8)} {tm : Nat} {ps : List Pr} {ss : List Ss} (h1 : stRun rdNum 0 st = (tm, s1)) (h2 : stAfter (rdPrs 32) s1 = s2) (g2 : GoodV (rdPrs 32) s1 ps) (h3 : stAfter (rdSss 8) s2 = s3) (g3 : GoodV (rdSss 8) s2 ss) :
    GoodV rdTab st ⟨(tm : Int), ps, ss⟩ ∧ stAfter rdTab st = if Tb.ok ⟨(tm : Int), ps, ss⟩ then s3 else stBad 6 s3 := by
  have r2 := GoodV.run g2
  rw [h2] at r2
  have r3 := GoodV.run g3
  rw [h3] at r3
  constructor
  · refine GoodV_then rdNum _ 0 st _ ?_
    rw [h1]
    refine GoodV_then (rdPrs 32) _ ps s1 _ ?_
    rw [r2]
    refine GoodV_then (rdSss 8) _ ss s2 _ ?_
    rw [r3]
    exact GoodV_end _ _ _ _
  · refine (stAfter_then rdNum _ 0 st).trans ?_
    rw [h1]
    refine (stAfter_then (rdPrs 32) _ ps s1).trans ?_
    rw [r2]
    refine (stAfter_then (rdSss 8) _ ss s2).trans ?_
    rw [r3]
    exact stAfter_end _ _ _ _
theorem noZero_pr : NoZero rdPr := (noZero_text 16).then fun _ => (noZero_text 64).then fun _ => noZero_num.then fun _ => NoZero.all _
theorem noZero_upTo (most : Nat) : NoZero (rdUpTo most) := fun _ _ h => rdUpTo_err h
theorem noZero_keys : NoZero (rdKeys 32) := (noZero_upTo 32).then fun n => rdTimes_err (noZero_text 16) n
theorem noZero_rs : NoZero rdRs := noZero_num.then fun _ => (noZero_text 64).then fun _ => noZero_num.then fun _ => noZero_keys.then fun _ => NoZero.all _
theorem noZero_ss : NoZero rdSs := noZero_num.then fun _ => noZero_num.then fun _ => noZero_num.then fun _ => noZero_rs.then fun _ => NoZero.all _
theorem noZero_tab : NoZero rdTab := noZero_num.then fun _ => ((noZero_upTo 32).then fun n => rdTimes_err noZero_pr n).then fun _ => ((noZero_upTo 8).then fun n => rdTimes_err noZero_ss n).then fun _ => NoZero.end _ _ _ (by decide)

/-- The table in its box, with its rows; the result's box. -/
structure G2 (w wr : World) (tm : Int) (aP : Option Addr) (cP : Nat) (ps : List Pr) (aS : Option Addr) (cS : Nat) (es : List Es) : Prop where
  kept : Kept Nil w wr
  res : wr.heap[w.heap.size]? = some (.cells #[.slice none 0 0, .slice none 0 0, .int .i64 0] 65 (0, 0))
  tab : wr.heap[w.heap.size + 2]? = some (.cells #[.slice aP ps.length cP, .slice aS es.length cS, .int .i64 tm] 65 (0, 0))
  prs : OwnPrs (w.heap.size + 3) wr aP cP ps
  sss : OwnSss (w.heap.size + 3) wr aS cS es

section
variable {w wr w' : World} {tm : Int} {aP aS : Option Addr} {cP cS : Nat} {ps : List Pr} {es : List Es}
theorem G2.step (h : G2 w wr tm aP cP ps aS cS es) (k : Kept (One (w.heap.size + 1)) wr w') : G2 w w' tm aP cP ps aS cS es :=
  ⟨Kept.ofNew h.kept k (fun j _ x => by have : j = w.heap.size + 1 := x; omega), k.block _ _ h.res (fun x => by have : w.heap.size = w.heap.size + 1 := x; omega), k.block _ _ h.tab (fun x => by have : w.heap.size + 2 = w.heap.size + 1 := x; omega),
    own_kept h.prs k (fun j _ hb x => by have : j = w.heap.size + 1 := x; omega), h.sss.kept k (fun j _ hb x => by have : j = w.heap.size + 1 := x; omega)⟩
theorem own_grownSelf {w' : World} {B B2 s1 s2 n1 n2 : Nat} {e1 e2 : TypeId} {v1 v2 : Value} {xs1 xs2 : List Value} {wa : World} (h1 : wa.ownsRow B e1 s1 v1 n1 xs1) (h2 : wa.ownsRow B2 e2 s2 v2 n2 xs2) (hne : e1 ≠ e2) (hg : wa.grownBy w' v2.ownBlock) : w'.ownsRow B e1 s1 v1 n1 xs1 := by
  refine ⟨h1.1, h1.2.imp id ?_⟩
  rintro ⟨g, cap, cur, a1, a2, a3, a4⟩
  refine ⟨g, cap, cur, a1, a2, ?_, a4⟩
  rw [hg.block g (lt_of_block a3) ?_]
  · exact a3
  · intro e
    rcases h2.2 with ⟨rfl, _⟩ | ⟨g2, cap2, cur2, rfl, b2, b3, _⟩
    · simp [Value.ownBlock] at e
    · simp only [Value.ownBlock, Option.some.injEq] at e
      subst e
      rw [a3] at b3
      simp only [Option.some.injEq, Obj.cells.injEq] at b3
      exact hne b3.2.1
/-- A block ahead of the rows stays where a row grows. -/
theorem grown_old {wa w' : World} {B n s : Nat} {e : TypeId} {v : Value} {xs : List Value} {k : Nat} {o : Obj} (hg : wa.grownBy w' v.ownBlock) (ho : wa.ownsRow B e s v n xs) (hk : k < B) (hb : wa.heap[k]? = some o) : w'.heap[k]? = some o := by
  rw [hg.block k (lt_of_block hb) (fun e => by have := own_row ho k e.symm; omega)]
  exact hb
theorem RSt.grown {wa w' : World} {b B n s : Nat} {e : TypeId} {v : Value} {xs : List Value} {st : Except Int (List UInt8)} (h : RSt b wa st) (hg : wa.grownBy w' v.ownBlock) (ho : wa.ownsRow B e s v n xs) (hk : b < B) : RSt b w' st := by
  cases st with
  | ok l => exact ⟨h.1, grown_old hg ho hk h.2⟩
  | error c => exact ⟨h.1, grown_old hg ho hk h.2⟩
theorem G2.pushP {o : Obj} {aP' : Option Addr} {cP' : Nat} {p : Pr} (h : G2 w wr tm aP cP ps aS cS es) (hg : (wr.alloc o).grownBy w' (Value.slice aP ps.length cP).ownBlock) (ho : w'.ownsRow (w.heap.size + 3) 128 3 (.slice aP' (ps.length + 1) cP') (ps.length + 1) (prCells ps ++ [.string (bs p.k), .string (bs p.v), .int .i64 p.n])) :
    G2 w (w'.setCell ⟨w.heap.size + 2, 0, none⟩ (.slice aP' (ps.length + 1) cP')) tm aP' cP' (ps ++ [p]) aS cS es := by
  have r := World.ownsRow.alloc h.prs o
  have t1 := grown_old hg r (show w.heap.size + 2 < w.heap.size + 3 by omega) (blk_past h.tab o)
  refine ⟨((h.kept.alloc o).grown hg (fun k hk => by have := own_row r k hk; omega)).setNew (by simp) _, blk_other (grown_old hg r (show w.heap.size < w.heap.size + 3 by omega) (blk_past h.res o)) (by simp) _, ?_, ownsRow_setCell_below (OwnPrs.push ho) (by simp) _, OwnSss.setB ⟨own_grownSelf (World.ownsRow.alloc h.sss.1 o) r (by decide) hg, fun e he => own_grownSelf (World.ownsRow.alloc (h.sss.2 e he) o) r (by decide) hg⟩ (by simp) _⟩
  rw [List.length_append]
  exact blk_set t1 0 _
theorem G2.pushS {o : Obj} {aS' aK : Option Addr} {cS' cK : Nat} {a : Ss} (h : G2 w wr tm aP cP ps aS cS es) (hk : OwnStrs (w.heap.size + 3) wr aK cK a.ks) (hg : (wr.alloc o).grownBy w' (Value.slice aS es.length cS).ownBlock) (ho : w'.ownsRow (w.heap.size + 3) 133 7 (.slice aS' (es.length + 1) cS') (es.length + 1) (esCells es ++ [.int .i64 a.cl, .int .i64 a.ls, .int .i64 a.kd, .string (bs a.val), .int .i64 a.ver, .slice aK a.ks.length cK, .int .i64 a.sn])) :
    G2 w (w'.setCell ⟨w.heap.size + 2, 1, none⟩ (.slice aS' (es.length + 1) cS')) tm aP cP ps aS' cS' (es ++ [⟨a, aK, cK⟩]) := by
  have r := World.ownsRow.alloc h.sss.1 o
  have t1 := grown_old hg r (show w.heap.size + 2 < w.heap.size + 3 by omega) (blk_past h.tab o)
  refine ⟨((h.kept.alloc o).grown hg (fun k hk => by have := own_row r k hk; omega)).setNew (by simp) _, blk_other (grown_old hg r (show w.heap.size < w.heap.size + 3 by omega) (blk_past h.res o)) (by simp) _, ?_, ownsRow_setCell_below (own_grownSelf (World.ownsRow.alloc h.prs o) r (by decide) hg) (by simp) _, OwnSss.setB (OwnSss.push ho (fun e he => own_grownSelf (World.ownsRow.alloc (h.sss.2 e he) o) r (by decide) hg) (own_grownSelf (World.ownsRow.alloc hk o) r (by decide) hg)) (by simp) _⟩
  rw [List.length_append]
  exact blk_set t1 1 _
end

end Go.Proofs.Ytijklginabipgaa

namespace Go.Proofs.Ytijklginabipgaa
open Go.RowKit

section
variable {w wr : World} {tm : Int} {aP aS : Option Addr} {cP cS : Nat} {ps : List Pr} {es : List Es}
theorem G2.time (h : G2 w wr tm aP cP ps aS cS es) (t : Int) : G2 w (wr.setCell ⟨w.heap.size + 2, 2, none⟩ (.int .i64 t)) t aP cP ps aS cS es :=
  ⟨h.kept.setNew (by simp) _, blk_other h.res (by simp) _, blk_set h.tab 2 _, ownsRow_setCell_below h.prs (by simp) _, h.sss.setB (by simp) _⟩
theorem G2.drew (h : G2 w wr tm aP cP ps aS cS es) : G2 w wr.drew tm aP cP ps aS cS es := ⟨h.kept.drew, h.res, h.tab, h.prs, h.sss⟩
end
theorem RSt.pastK {b : Nat} {w w' : World} {st : Except Int (List UInt8)} (h : RSt b w st) (hk : w'.heap[b]? = w.heap[b]?) : RSt b w' st := by
  cases st with
  | ok l => exact ⟨h.1, hk.trans h.2⟩
  | error c => exact ⟨h.1, hk.trans h.2⟩

theorem refTabN_any (c1 c2 : Nat) (tm : Int) (a1 a2 : Option Addr) (ps : List Pr) (es : List Es) (w : World) (h1 : PairRow w.heap.size w a1 ps) (h2 : SessRow w.heap.size w a2 (es.map Es.s)) (l1 : ps.length ≤ 32) (l2 : es.length ≤ 8) :
    Calls Try.prog 98 #[.agg #[.slice a1 ps.length c1, .slice a2 es.length c2, .int .i64 tm]] w fun e w' => e = .returned (.bool (Tb.ok ⟨tm, ps, es.map Es.s⟩)) ∧ Kept Nil w w' := by
  have H := refIsTable_any w.heap.size c1 c2 tm a1 a2 ps (es.map Es.s) w h1 h2 (by omega) (by rw [List.length_map]; omega)
  rw [List.length_map] at H
  exact H

set_option maxRecDepth 100000 in
set_option maxHeartbeats 8000000 in
theorem refGetTable_any (l : List UInt8) (w : World) (hlen : l.length ≤ maxLen) :
    Calls Try.prog 54 #[.string (bs l)] w (GotPost (TbV w.heap.size) (getAll zTb (rdTab l)) w) := by
  obtain ⟨ip, hip, hip0, hip1, hip2⟩ := info_parts Try.infoPr
  obtain ⟨iS, his, his0, his1, his2⟩ := info_parts Try.infoSs
  obtain ⟨ik, hik, hik0, hik1, hik2⟩ := info_parts Try.infoStr
  obtain ⟨tm, s1, e1⟩ := run_ex rdNum 0 (.ok l)
  have E1 : Hid (stRun rdNum 0 (.ok l) = (tm, s1)) := e1
  obtain ⟨n, s2, e2⟩ := run_ex (rdUpTo 32) 0 s1
  have E2 : Hid (stRun (rdUpTo 32) 0 s1 = (n, s2)) := e2
  have hn : (n : Int) ≤ 32 := by have := upToR_le e2; omega
  clear e1 e2
  obtain ⟨q1, q2, q3⟩ := three w (.cells #[.slice none 0 0, .slice none 0 0, .int .i64 0] 65) (.cells #[.string (bs l), .int .i64 0] 115) (.cells #[.slice none 0 0, .slice none 0 0, .int .i64 0] 65)
  have T0 : Hid (RSt (w.heap.size + 1) (((w.alloc (.cells #[.slice none 0 0, .slice none 0 0, .int .i64 0] 65)).alloc (.cells #[.string (bs l), .int .i64 0] 115)).alloc (.cells #[.slice none 0 0, .slice none 0 0, .int .i64 0] 65)) (.ok l)) := ⟨hlen, q2⟩
  have G0 : Hid (G2 w (((w.alloc (.cells #[.slice none 0 0, .slice none 0 0, .int .i64 0] 65)).alloc (.cells #[.string (bs l), .int .i64 0] 115)).alloc (.cells #[.slice none 0 0, .slice none 0 0, .int .i64 0] 65)) 0 none 0 [] none 0 []) := ⟨(((Kept.refl _ _).alloc _).alloc _).alloc _, q1, q3, World.ownsRow_nil _ _ _ _, World.ownsRow_nil _ _ _ _, fun _ h => by simp at h⟩
  clear q1 q2 q3 hlen
  go_enter Try.func54, Try.ntmps54
  go_wp2_with fail
  refine (refNumR T0.out E1.out).mono ?_
  rintro e w1 ⟨rfl, t1, k1⟩
  have G1 : Hid (G2 w w1 0 none 0 [] none 0 []) := G0.out.step k1
  have T1 : Hid (RSt (w.heap.size + 1) (w1.setCell ⟨w.heap.size + 2, 2, none⟩ (.int .i64 tm)) s1) := t1.other (by simp) _
  have G1' : Hid (G2 w (w1.setCell ⟨w.heap.size + 2, 2, none⟩ (.int .i64 tm)) tm none 0 [] none 0 []) := G1.out.time _
  have c2 := blk_at G1.out.tab 2 rfl
  have f2 := blk_free G1.out.tab 2
  clear T0 G0 G1 t1 k1
  go_wp2_with fail
  refine (refUpToR T1.out E2.out).mono ?_
  rintro e w2 ⟨rfl, t2, k2⟩
  have HG2 : Hid (G2 w w2 tm none 0 [] none 0 []) := G1'.out.step k2
  have HT2 : Hid (RSt (w.heap.size + 1) w2 s2) := t2
  clear T1 G1' t2 k2 c2 f2
  go_upto_block 0 with fail
  go_cut [7, 8] from 24 to 50 (fun _ _ wc => ∃ ps : List Pr, ∃ s3 : Except Int (List UInt8), ∃ aP cP, ps.length ≤ 32 ∧ Hid (∀ p ∈ ps, PSmall p) ∧ Hid (G2 w wc tm aP cP ps none 0 []) ∧ Hid (stAfter (rdPrs 32) s1 = s3) ∧ Hid (GoodV (rdPrs 32) s1 ps) ∧ Hid (RSt (w.heap.size + 1) wc s3))
  case first =>
    go_wp2_with fail
    go_loopw [7] (fun i wr => ∃ k : Nat, ∃ ps : List Pr, ∃ s3 : Except Int (List UInt8), ∃ aP cP, k ≤ n ∧ i = .int .i64 k ∧ Hid (ps.length = k) ∧ Hid (∀ p ∈ ps, PSmall p) ∧ Hid (G2 w wr tm aP cP ps none 0 []) ∧ Hid (Come rdPr n k s2 ps s3) ∧ Hid (∀ c, s2 = .error c → s3 = .error c) ∧ Hid (RSt (w.heap.size + 1) wr s3)) (fun i _ => n - (intOf i).toNat)
    case atStart => exact ⟨0, [], s2, none, 0, by omega, rfl, rfl, fun _ h => by simp at h, HG2.out, by intro t ht; subst ht; exact (preT_nil _).symm, fun c h => h, HT2.out⟩
    case round =>
      obtain ⟨k, ps, s3, aP, cP, hk, rfl, HA, HP, HG, HC, HS, HT⟩ := hrel
      clear HG2 HT2
      have herr := HT.out.err
      by_cases hgo : k < n ∧ ∃ u, s3 = .ok u
      · obtain ⟨hkn, u, rfl⟩ := hgo
        have herr : wr.cell? ⟨w.heap.size + 1, 1, none⟩ = some (.int .i64 0) := herr
        obtain ⟨key, va, r1⟩ := run_ex (rdText 16) [] (.ok u)
        obtain ⟨val, vb, r2⟩ := run_ex (rdText 64) [] va
        obtain ⟨num, vc, r3⟩ := run_ex rdNum 0 vb
        obtain ⟨hg, hs⟩ := prRun r1 r2 r3
        have HC2 : Hid (Come rdPr n (k + 1) s2 (ps ++ [⟨key, val, (num : Int)⟩]) vc) := HC.out.step hkn hg hs
        have HS2 : Hid (∀ c, s2 = .error c → vc = .error c) := fun c h => by have := HS.out c h; cases this
        have HP2 : Hid (∀ p ∈ ps ++ [⟨key, val, (num : Int)⟩], PSmall p) := fun p hp => by
          rcases List.mem_append.mp hp with hp | hp
          · exact HP.out p hp
          · simp at hp; subst hp; exact ⟨textR_le r1, textR_le r2⟩
        have R1 : Hid (stRun (rdText 16) [] (.ok u) = (key, va)) := r1
        have R2 : Hid (stRun (rdText 64) [] va = (val, vb)) := r2
        have R3 : Hid (stRun rdNum 0 vb = (num, vc)) := r3
        have HLL : Hid (ps.length + 1 ≤ maxLen ∧ (ps.length + 1) * 40 ≤ 140737488355328) := by
          have := HA.out
          constructor
          · unfold maxLen; omega
          · omega
        have hMN : Hid (w.heap.size + 2 < wr.heap.size) := lt_of_block HG.out.tab
        have hNM : w.heap.size + 1 ≠ wr.heap.size := by have := hMN.out; omega
        have hxo : ∀ o, ¬ One (w.heap.size + 1) wr.heap.size o := fun o x => by have : wr.heap.size = w.heap.size + 1 := x; have := hMN.out; omega
        have X0 : Hid _ := blk_new wr (.cells #[.string (bs []), .string (bs []), .int .i64 0] 128)
        clear r1 r2 r3 hg hs HC HS
        go_wp2_with fail
        refine (refTextR (HT.out.past _) R1.out).mono ?_
        rintro e wa ⟨rfl, ta, ka⟩
        have Xa : wa.heap[wr.heap.size]? = some (.cells #[.string (bs []), .string (bs []), .int .i64 0] 128 (0, 0)) := ka.block _ _ X0.out (hxo _)
        have Ka : Hid (Kept (One (w.heap.size + 1)) wr wa) := ((Kept.refl _ _).alloc _).trans ka
        have xa := blk_at Xa 0 rfl
        have ya := blk_free Xa 0
        have Xa' : (wa.setCell ⟨wr.heap.size, 0, none⟩ (.string (bs key))).heap[wr.heap.size]? = some (.cells #[.string (bs key), .string (bs []), .int .i64 0] 128 (0, 0)) := blk_set Xa 0 _
        have Ka' : Hid (Kept (One (w.heap.size + 1)) wr (wa.setCell ⟨wr.heap.size, 0, none⟩ (.string (bs key)))) := Ka.out.setNew (Nat.le_refl _) _
        have Ta : Hid (RSt (w.heap.size + 1) (wa.setCell ⟨wr.heap.size, 0, none⟩ (.string (bs key))) _) := ta.other hNM _
        clear Xa Ka ta ka
        go_wp2_with fail
        refine (refTextR Ta.out R2.out).mono ?_
        rintro e wb ⟨rfl, tb, kb⟩
        have Xb : wb.heap[wr.heap.size]? = some (.cells #[.string (bs key), .string (bs []), .int .i64 0] 128 (0, 0)) := kb.block _ _ Xa' (hxo _)
        have Kb : Hid (Kept (One (w.heap.size + 1)) wr wb) := Ka'.out.trans kb
        have xb := blk_at Xb 1 rfl
        have yb := blk_free Xb 1
        have Xb' : (wb.setCell ⟨wr.heap.size, 1, none⟩ (.string (bs val))).heap[wr.heap.size]? = some (.cells #[.string (bs key), .string (bs val), .int .i64 0] 128 (0, 0)) := blk_set Xb 1 _
        have Kb' : Hid (Kept (One (w.heap.size + 1)) wr (wb.setCell ⟨wr.heap.size, 1, none⟩ (.string (bs val)))) := Kb.out.setNew (Nat.le_refl _) _
        have Tb : Hid (RSt (w.heap.size + 1) (wb.setCell ⟨wr.heap.size, 1, none⟩ (.string (bs val))) _) := tb.other hNM _
        clear Xb Kb tb kb Xa' Ka' Ta xa ya
        go_wp2_with fail
        refine (refNumR Tb.out R3.out).mono ?_
        rintro e wc ⟨rfl, tc, kc⟩
        have Xc : wc.heap[wr.heap.size]? = some (.cells #[.string (bs key), .string (bs val), .int .i64 0] 128 (0, 0)) := kc.block _ _ Xb' (hxo _)
        have Kc : Hid (Kept (One (w.heap.size + 1)) wr wc) := Kb'.out.trans kc
        have xc := blk_at Xc 2 rfl
        have yc := blk_free Xc 2
        have Xc' : (wc.setCell ⟨wr.heap.size, 2, none⟩ (.int .i64 num)).heap[wr.heap.size]? = some (.cells #[.string (bs key), .string (bs val), .int .i64 num] 128 (0, 0)) := blk_set Xc 2 _
        have Kc' : Hid (Kept (One (w.heap.size + 1)) wr (wc.setCell ⟨wr.heap.size, 2, none⟩ (.int .i64 num))) := Kc.out.setNew (Nat.le_refl _) _
        have Tc : Hid (RSt (w.heap.size + 1) (wc.setCell ⟨wr.heap.size, 2, none⟩ (.int .i64 num)) _) := tc.other hNM _
        clear Xc Kc tc kc Xb' Kb' Tb xb yb
        go_upto_region 12 with fail
        generalize (wc.setCell ⟨wr.heap.size, 2, none⟩ (.int .i64 num)) = wd at Xc' Kc' Tc ⊢
        have GD : Hid (G2 w wd tm aP cP ps none 0 []) := HG.out.step Kc'.out
        have HT3 : Hid (RSt (w.heap.size + 1) wd vc) := Tc.out
        have d0 := blk_at Xc' 0 rfl
        have d1 := blk_at Xc' 1 rfl
        have d2 := blk_at Xc' 2 rfl
        have b0 := blk_at GD.out.tab 0 rfl
        have g0 := blk_free GD.out.tab 0
        have hlM : wr.heap.size < wd.heap.size := lt_of_block Xc'
        have hl2 : w.heap.size + 2 < wd.heap.size := lt_of_block GD.out.tab
        have hl3 : w.heap.size + 3 ≤ wd.heap.size := by omega
        clear Xc' Kc' Tc herr
        go_wp2_with (at_builtin; go_must (refine wpList_append_src _ rfl _ _ 62 62 rfl (w.heap.size + 3) 128 ip (.agg #[.string ⟨#[]⟩, .string ⟨#[]⟩, .int .i64 0]) 3 40 Try.underlying62 hip hip0 hip1 hip2 rfl _ _ _ rfl (World.ownsRow.alloc GD.out.prs _) (.slice (some ⟨wd.heap.size, 0, none⟩) 1 1) 1 [.string (bs key), .string (bs val), .int .i64 num] rfl (src_pr ⟨key, val, (num : Int)⟩) HLL.out.1 HLL.out.2 (le_alloc hl3 _) ?_); intro ao' c' w4 ho' hg'; have HO4 : Hid _ := ho'; have HG4 : Hid _ := hg'; have HB4 := grown_old hg' (World.ownsRow.alloc GD.out.prs _) (show w.heap.size + 2 < w.heap.size + 3 by omega) (blk_past GD.out.tab _); have q4 := blk_at HB4 0 rfl; have f4 := blk_free HB4 0; have HT4 : Hid _ := (RSt.grown (RSt.past HT3.out _) hg' (World.ownsRow.alloc GD.out.prs _) (show w.heap.size + 1 < w.heap.size + 3 by omega)); clear HB4; clear ho' hg')
        go_roundw
        case measure => simp [intOf]; omega
        case rel => exact ⟨k + 1, ps ++ [(⟨key, val, (num : Int)⟩ : Pr)], vc, ao', c', by omega, by go_num, by have := HA.out; show (ps ++ [_]).length = k + 1; simp; omega, HP2.out, GD.out.pushP (p := ⟨key, val, (num : Int)⟩) HG4.out HO4.out, HC2.out, HS2.out, RSt.other HT4.out (by simp) _⟩
      · have hkk : ∀ u, s3 = .ok u → k = n := fun u hu => Decidable.byContradiction fun hne => hgo ⟨by omega, u, hu⟩
        obtain ⟨hS, hG⟩ := HC.out.done E2.out HS.out hkk
        have HS9 : Hid (stAfter (rdPrs 32) s1 = s3) := hS
        have HG9 : Hid (GoodV (rdPrs 32) s1 ps) := hG
        have hne : k < n → stErr s3 ≠ 0 := by
          intro hkn
          have h3 := HT.out
          cases s3 with
          | ok u => exact absurd ⟨hkn, u, rfl⟩ hgo
          | error e => exact h3.1
        generalize stErr s3 = ze at herr hne
        clear hS hG hkk hgo HC HS
        by_cases hkn : k < n
        · have hz : (ze == 0) = false := by simpa using hne hkn
          clear hne
          go_wp2
          go_meet
          case rel => exact ⟨ps, s3, aP, cP, by have := HA.out; omega, HP.out, HG.out, HS9.out, HG9.out, HT.out⟩
        · clear hne
          go_wp2
          go_meet
          case rel => exact ⟨ps, s3, aP, cP, by have := HA.out; omega, HP.out, HG.out, HS9.out, HG9.out, HT.out⟩
  case rest =>
    obtain ⟨ps, s3, aP, cP, hl, HP, HG, HS9, HG9, HT⟩ := hcut
    obtain ⟨n2, s4, e3⟩ := run_ex (rdUpTo 8) 0 s3
    have E3 : Hid (stRun (rdUpTo 8) 0 s3 = (n2, s4)) := e3
    have hn2 : (n2 : Int) ≤ 8 := by have := upToR_le e3; omega
    clear e3
    go_wp2_with fail
    refine (refUpToR HT.out E3.out).mono ?_
    rintro e w3 ⟨rfl, t3, k3⟩
    have HG3 : Hid (G2 w w3 tm aP cP ps none 0 []) := HG.out.step k3
    have HT3 : Hid (RSt (w.heap.size + 1) w3 s4) := t3
    clear t3 k3 HG HT
    go_upto_block 2 with fail
    go_cut [9, 10, 11, 12, 13] from 53 to 115 (fun _ _ _ _ _ wc => ∃ es : List Es, ∃ s5 : Except Int (List UInt8), ∃ aS cS, es.length ≤ 8 ∧ Hid (∀ s ∈ es.map Es.s, SSmall s) ∧ Hid (G2 w wc tm aP cP ps aS cS es) ∧ Hid (stAfter (rdSss 8) s3 = s5) ∧ Hid (GoodV (rdSss 8) s3 (es.map Es.s)) ∧ Hid (RSt (w.heap.size + 1) wc s5))
    case first =>
      go_wp2_with fail
      go_loopg [9] n2 (fun g i wr => ∃ k : Nat, ∃ es : List Es, ∃ s5 : Except Int (List UInt8), ∃ aS cS, k ≤ n2 ∧ g = n2 - k ∧ i = .int .i64 k ∧ Hid (es.length = k) ∧ Hid (∀ s ∈ es.map Es.s, SSmall s) ∧ Hid (G2 w wr tm aP cP ps aS cS es) ∧ Hid (Come rdSs n2 k s4 (es.map Es.s) s5) ∧ Hid (∀ c, s4 = .error c → s5 = .error c) ∧ Hid (RSt (w.heap.size + 1) wr s5))
      case atStart => exact ⟨0, [], s4, none, 0, by omega, rfl, rfl, rfl, fun _ h => by simp at h, HG3.out, by intro t ht; subst ht; exact (preT_nil _).symm, fun c h => h, HT3.out⟩
      case round =>
        obtain ⟨k, es, s5, aS, cS, hk, rfl, rfl, HA, HSm, HG, HC, HS, HT⟩ := hrel
        clear HG3 HT3
        have herr := HT.out.err
        by_cases hgo : k < n2 ∧ ∃ u, s5 = .ok u
        · obtain ⟨hkn, u, rfl⟩ := hgo
          have herr : wr.cell? ⟨w.heap.size + 1, 1, none⟩ = some (.int .i64 0) := herr
          obtain ⟨cl, va, r1⟩ := run_ex rdNum 0 (.ok u)
          obtain ⟨ls, vb, r2⟩ := run_ex rdNum 0 va
          obtain ⟨sn, vc, r3⟩ := run_ex rdNum 0 vb
          obtain ⟨knd, vd, r4⟩ := run_ex rdNum 0 vc
          obtain ⟨val, ve, r5⟩ := run_ex (rdText 64) [] vd
          obtain ⟨ver, vf, r6⟩ := run_ex rdNum 0 ve
          obtain ⟨m, vg, r7⟩ := run_ex (rdUpTo 32) 0 vf
          have hm : (m : Int) ≤ 32 := by have := upToR_le r7; omega
          have hv64 : Hid (val.length ≤ 64) := textR_le r5
          have HSS : Hid (∀ ks s', stAfter (rdKeys 32) vf = s' → GoodV (rdKeys 32) vf ks → GoodV rdSs (.ok u) ⟨(cl : Int), (ls : Int), (knd : Int), val, (ver : Int), ks, (sn : Int)⟩ ∧ s' = stAfter rdSs (.ok u)) := fun ks s' h g => ssRun r1 r2 r3 r4 r5 r6 h g
          have R1 : Hid (stRun rdNum 0 (.ok u) = (cl, va)) := r1
          have R2 : Hid (stRun rdNum 0 va = (ls, vb)) := r2
          have R3 : Hid (stRun rdNum 0 vb = (sn, vc)) := r3
          have R4 : Hid (stRun rdNum 0 vc = (knd, vd)) := r4
          have R5 : Hid (stRun (rdText 64) [] vd = (val, ve)) := r5
          have R6 : Hid (stRun rdNum 0 ve = (ver, vf)) := r6
          have R7 : Hid (stRun (rdUpTo 32) 0 vf = (m, vg)) := r7
          have HLL : Hid (es.length + 1 ≤ maxLen ∧ (es.length + 1) * 80 ≤ 140737488355328) := by
            have := HA.out
            constructor
            · unfold maxLen; omega
            · omega
          have hMN : Hid (w.heap.size + 2 < wr.heap.size) := lt_of_block HG.out.tab
          have hNM : w.heap.size + 1 ≠ wr.heap.size := by have := hMN.out; omega
          have hxo : ∀ o, ¬ One (w.heap.size + 1) wr.heap.size o := fun o x => by have : wr.heap.size = w.heap.size + 1 := x; have := hMN.out; omega
          have X0 : Hid _ := blk_new wr (.cells #[.int .i64 0, .int .i64 0, .int .i64 0, .string (bs []), .int .i64 0, .slice none 0 0, .int .i64 0] 133)
          clear r1 r2 r3 r4 r5 r6 r7
          go_wp2_with fail
          refine (refNumR (HT.out.past _) R1.out).mono ?_
          rintro e wa ⟨rfl, ta, ka⟩
          have Xa : wa.heap[wr.heap.size]? = some (.cells #[.int .i64 0, .int .i64 0, .int .i64 0, .string (bs []), .int .i64 0, .slice none 0 0, .int .i64 0] 133 (0, 0)) := ka.block _ _ X0.out (hxo _)
          have Ka : Hid (Kept (One (w.heap.size + 1)) wr wa) := ((Kept.refl _ _).alloc _).trans ka
          have xa := blk_at Xa 0 rfl
          have ya := blk_free Xa 0
          have Xa' : (wa.setCell ⟨wr.heap.size, 0, none⟩ (.int .i64 cl)).heap[wr.heap.size]? = some (.cells #[.int .i64 cl, .int .i64 0, .int .i64 0, .string (bs []), .int .i64 0, .slice none 0 0, .int .i64 0] 133 (0, 0)) := blk_set Xa 0 _
          have Ka' : Hid (Kept (One (w.heap.size + 1)) wr (wa.setCell ⟨wr.heap.size, 0, none⟩ (.int .i64 cl))) := Ka.out.setNew (Nat.le_refl _) _
          have Ta : Hid (RSt (w.heap.size + 1) (wa.setCell ⟨wr.heap.size, 0, none⟩ (.int .i64 cl)) _) := ta.other hNM _
          clear Xa Ka ta ka
          go_wp2_with fail
          refine (refNumR Ta.out R2.out).mono ?_
          rintro e wb ⟨rfl, tb, kb⟩
          have Xb : wb.heap[wr.heap.size]? = some (.cells #[.int .i64 cl, .int .i64 0, .int .i64 0, .string (bs []), .int .i64 0, .slice none 0 0, .int .i64 0] 133 (0, 0)) := kb.block _ _ Xa' (hxo _)
          have Kb : Hid (Kept (One (w.heap.size + 1)) wr wb) := Ka'.out.trans kb
          have xb := blk_at Xb 1 rfl
          have yb := blk_free Xb 1
          have Xb' : (wb.setCell ⟨wr.heap.size, 1, none⟩ (.int .i64 ls)).heap[wr.heap.size]? = some (.cells #[.int .i64 cl, .int .i64 ls, .int .i64 0, .string (bs []), .int .i64 0, .slice none 0 0, .int .i64 0] 133 (0, 0)) := blk_set Xb 1 _
          have Kb' : Hid (Kept (One (w.heap.size + 1)) wr (wb.setCell ⟨wr.heap.size, 1, none⟩ (.int .i64 ls))) := Kb.out.setNew (Nat.le_refl _) _
          have Tb : Hid (RSt (w.heap.size + 1) (wb.setCell ⟨wr.heap.size, 1, none⟩ (.int .i64 ls)) _) := tb.other hNM _
          clear Xb Kb tb kb Xa' Ka' Ta xa ya
          go_wp2_with fail
          refine (refNumR Tb.out R3.out).mono ?_
          rintro e wc ⟨rfl, tc, kc⟩
          have Xc : wc.heap[wr.heap.size]? = some (.cells #[.int .i64 cl, .int .i64 ls, .int .i64 0, .string (bs []), .int .i64 0, .slice none 0 0, .int .i64 0] 133 (0, 0)) := kc.block _ _ Xb' (hxo _)
          have Kc : Hid (Kept (One (w.heap.size + 1)) wr wc) := Kb'.out.trans kc
          have xc := blk_at Xc 6 rfl
          have yc := blk_free Xc 6
          have Xc' : (wc.setCell ⟨wr.heap.size, 6, none⟩ (.int .i64 sn)).heap[wr.heap.size]? = some (.cells #[.int .i64 cl, .int .i64 ls, .int .i64 0, .string (bs []), .int .i64 0, .slice none 0 0, .int .i64 sn] 133 (0, 0)) := blk_set Xc 6 _
          have Kc' : Hid (Kept (One (w.heap.size + 1)) wr (wc.setCell ⟨wr.heap.size, 6, none⟩ (.int .i64 sn))) := Kc.out.setNew (Nat.le_refl _) _
          have Tc : Hid (RSt (w.heap.size + 1) (wc.setCell ⟨wr.heap.size, 6, none⟩ (.int .i64 sn)) _) := tc.other hNM _
          clear Xc Kc tc kc Xb' Kb' Tb xb yb
          go_wp2_with fail
          refine (refNumR Tc.out R4.out).mono ?_
          rintro e wd ⟨rfl, td, kd⟩
          have Xd : wd.heap[wr.heap.size]? = some (.cells #[.int .i64 cl, .int .i64 ls, .int .i64 0, .string (bs []), .int .i64 0, .slice none 0 0, .int .i64 sn] 133 (0, 0)) := kd.block _ _ Xc' (hxo _)
          have Kd : Hid (Kept (One (w.heap.size + 1)) wr wd) := Kc'.out.trans kd
          have xd := blk_at Xd 2 rfl
          have yd := blk_free Xd 2
          have Xd' : (wd.setCell ⟨wr.heap.size, 2, none⟩ (.int .i64 knd)).heap[wr.heap.size]? = some (.cells #[.int .i64 cl, .int .i64 ls, .int .i64 knd, .string (bs []), .int .i64 0, .slice none 0 0, .int .i64 sn] 133 (0, 0)) := blk_set Xd 2 _
          have Kd' : Hid (Kept (One (w.heap.size + 1)) wr (wd.setCell ⟨wr.heap.size, 2, none⟩ (.int .i64 knd))) := Kd.out.setNew (Nat.le_refl _) _
          have Td : Hid (RSt (w.heap.size + 1) (wd.setCell ⟨wr.heap.size, 2, none⟩ (.int .i64 knd)) _) := td.other hNM _
          clear Xd Kd td kd Xc' Kc' Tc xc yc
          go_wp2_with fail
          refine (refTextR Td.out R5.out).mono ?_
          rintro e we ⟨rfl, te, ke⟩
          have Xe : we.heap[wr.heap.size]? = some (.cells #[.int .i64 cl, .int .i64 ls, .int .i64 knd, .string (bs []), .int .i64 0, .slice none 0 0, .int .i64 sn] 133 (0, 0)) := ke.block _ _ Xd' (hxo _)
          have Ke : Hid (Kept (One (w.heap.size + 1)) wr we) := Kd'.out.trans ke
          have xe := blk_at Xe 3 rfl
          have ye := blk_free Xe 3
          have Xe' : (we.setCell ⟨wr.heap.size, 3, none⟩ (.string (bs val))).heap[wr.heap.size]? = some (.cells #[.int .i64 cl, .int .i64 ls, .int .i64 knd, .string (bs val), .int .i64 0, .slice none 0 0, .int .i64 sn] 133 (0, 0)) := blk_set Xe 3 _
          have Ke' : Hid (Kept (One (w.heap.size + 1)) wr (we.setCell ⟨wr.heap.size, 3, none⟩ (.string (bs val)))) := Ke.out.setNew (Nat.le_refl _) _
          have Te : Hid (RSt (w.heap.size + 1) (we.setCell ⟨wr.heap.size, 3, none⟩ (.string (bs val))) _) := te.other hNM _
          clear Xe Ke te ke Xd' Kd' Td xd yd
          go_wp2_with fail
          refine (refNumR Te.out R6.out).mono ?_
          rintro e wf ⟨rfl, tf, kf⟩
          have Xf : wf.heap[wr.heap.size]? = some (.cells #[.int .i64 cl, .int .i64 ls, .int .i64 knd, .string (bs val), .int .i64 0, .slice none 0 0, .int .i64 sn] 133 (0, 0)) := kf.block _ _ Xe' (hxo _)
          have Kf : Hid (Kept (One (w.heap.size + 1)) wr wf) := Ke'.out.trans kf
          have xf := blk_at Xf 4 rfl
          have yf := blk_free Xf 4
          have Xf' : (wf.setCell ⟨wr.heap.size, 4, none⟩ (.int .i64 ver)).heap[wr.heap.size]? = some (.cells #[.int .i64 cl, .int .i64 ls, .int .i64 knd, .string (bs val), .int .i64 ver, .slice none 0 0, .int .i64 sn] 133 (0, 0)) := blk_set Xf 4 _
          have Kf' : Hid (Kept (One (w.heap.size + 1)) wr (wf.setCell ⟨wr.heap.size, 4, none⟩ (.int .i64 ver))) := Kf.out.setNew (Nat.le_refl _) _
          have Tf : Hid (RSt (w.heap.size + 1) (wf.setCell ⟨wr.heap.size, 4, none⟩ (.int .i64 ver)) _) := tf.other hNM _
          clear Xf Kf tf kf Xe' Ke' Te xe ye
          go_wp2_with fail
          refine (refUpToR Tf.out R7.out).mono ?_
          rintro e wg ⟨rfl, tg, kg⟩
          have Xg : wg.heap[wr.heap.size]? = some (.cells #[.int .i64 cl, .int .i64 ls, .int .i64 knd, .string (bs val), .int .i64 ver, .slice none 0 0, .int .i64 sn] 133 (0, 0)) := kg.block _ _ Xf' (hxo _)
          have Kg : Hid (Kept (One (w.heap.size + 1)) wr wg) := Kf'.out.trans kg
          have Tg : Hid (RSt (w.heap.size + 1) wg vg) := tg
          clear kg tg Xf' Kf' Tf xf yf
          have HX : Hid _ := Xg
          clear Xg herr
          go_upto_block 4 with fail
          go_cut [12, 13] from 53 to 115 (fun _ _ wc => ∃ ks : List (List UInt8), ∃ s6 : Except Int (List UInt8), ∃ aK cK, Hid (ks.length ≤ 32) ∧ Hid (∀ x ∈ ks, x.length ≤ 16) ∧ Hid (wc.heap[wr.heap.size]? = some (.cells #[.int .i64 cl, .int .i64 ls, .int .i64 knd, .string (bs val), .int .i64 ver, .slice aK ks.length cK, .int .i64 sn] 133 (0, 0))) ∧ Hid (Kept (One (w.heap.size + 1)) wr wc) ∧ Hid (OwnStrs (wr.heap.size + 1) wc aK cK ks) ∧ Hid (stAfter (rdKeys 32) vf = s6) ∧ Hid (GoodV (rdKeys 32) vf ks) ∧ Hid (RSt (w.heap.size + 1) wc s6))
          case first =>
            go_wp2_with fail
            go_loopw [12] (fun i wi => ∃ j : Nat, ∃ ks : List (List UInt8), ∃ s6 : Except Int (List UInt8), ∃ aK cK, j ≤ m ∧ i = .int .i64 j ∧ Hid (ks.length = j) ∧ Hid (∀ x ∈ ks, x.length ≤ 16) ∧ Hid (wi.heap[wr.heap.size]? = some (.cells #[.int .i64 cl, .int .i64 ls, .int .i64 knd, .string (bs val), .int .i64 ver, .slice aK ks.length cK, .int .i64 sn] 133 (0, 0))) ∧ Hid (Kept (One (w.heap.size + 1)) wr wi) ∧ Hid (OwnStrs (wr.heap.size + 1) wi aK cK ks) ∧ Hid (Come (rdText 16) m j vg ks s6) ∧ Hid (∀ c, vg = .error c → s6 = .error c) ∧ Hid (RSt (w.heap.size + 1) wi s6)) (fun i _ => m - (intOf i).toNat)
            case atStart => exact ⟨0, [], vg, none, 0, by omega, rfl, rfl, fun _ h => by simp at h, HX.out, Kg.out, World.ownsRow_nil _ _ _ _, by intro t ht; subst ht; exact (preT_nil _).symm, fun c h => h, Tg.out⟩
            case round =>
              obtain ⟨j, ks, s6, aK, cK, hj, rfl, HB, HKs, HXi, HKi, HOi, HCi, HSi, HTi⟩ := hrel
              clear HX Kg Tg
              have herr := HTi.out.err
              rename World => wi
              by_cases hgo2 : j < m ∧ ∃ u, s6 = .ok u
              · obtain ⟨hjm, t, rfl⟩ := hgo2
                have herr : wi.cell? ⟨w.heap.size + 1, 1, none⟩ = some (.int .i64 0) := herr
                obtain ⟨y, vh, r8⟩ := run_ex (rdText 16) [] (.ok t)
                have R8 : Hid (stRun (rdText 16) [] (.ok t) = (y, vh)) := r8
                have HCi2 : Hid (Come (rdText 16) m (j + 1) vg (ks ++ [y]) vh) := HCi.out.step hjm (by have := GoodV_run (rdText 16) [] (.ok t); rw [r8] at this; exact this) (by rw [← stAfter_run (rdText 16) [], r8])
                have HSi2 : Hid (∀ c, vg = .error c → vh = .error c) := fun c h => by have := HSi.out c h; cases this
                have HKs2 : Hid (∀ x ∈ ks ++ [y], x.length ≤ 16) := fun p hp => by
                  rcases List.mem_append.mp hp with hp | hp
                  · exact HKs.out p hp
                  · simp at hp; subst hp; exact textR_le r8
                have HLK : Hid (ks.length + 1 ≤ maxLen ∧ (ks.length + 1) * 16 ≤ 140737488355328) := by
                  have := HB.out
                  constructor
                  · unfold maxLen; omega
                  · omega
                clear r8 HCi HSi
                go_wp2_with fail
                refine (refTextR HTi.out R8.out).mono ?_
                rintro e wd ⟨rfl, td, kd9⟩
                have Xd := kd9.block _ _ HXi.out (hxo _)
                have KD : Hid (Kept (One (w.heap.size + 1)) wr wd) := HKi.out.trans kd9
                have OD : Hid (OwnStrs (wr.heap.size + 1) wd aK cK ks) := own_kept HOi.out kd9 (fun q _ hb x => by have : q = w.heap.size + 1 := x; have := hMN.out; omega)
                have HTd : Hid (RSt (w.heap.size + 1) wd vh) := td
                have b5 := blk_at Xd 5 rfl
                have hl3 : wr.heap.size + 1 ≤ wd.heap.size := lt_of_block Xd
                have HXd : Hid _ := Xd
                clear Xd td kd9 HXi HKi HOi HTi herr
                go_wp2_with (at_builtin; go_must (refine wpList_append_src _ rfl _ _ 129 129 rfl (wr.heap.size + 1) 9 ik (.string ⟨#[]⟩) 1 16 Try.underlying129 hik hik0 hik1 hik2 rfl _ _ _ rfl (World.ownsRow.alloc OD.out _) (.slice (some ⟨wd.heap.size, 0, none⟩) 1 1) 1 [.string (bs y)] rfl (src_str1 _) HLK.out.1 HLK.out.2 (le_alloc hl3 _) ?_); intro ao' c' w4 ho' hg'; have HO4 : Hid _ := ho'; have HG4 : Hid _ := hg'; have HB4 := grown_old hg' (World.ownsRow.alloc OD.out _) (Nat.lt_succ_self wr.heap.size) (blk_past HXd.out _); have q4 := blk_at HB4 5 rfl; have f4 := blk_free HB4 5; have HX4 : Hid _ := HB4; have HT4 : Hid _ := (RSt.grown (RSt.past HTd.out _) hg' (World.ownsRow.alloc OD.out _) (show w.heap.size + 1 < wr.heap.size + 1 by have := hMN.out; omega)); clear HB4; clear ho' hg')
                go_roundw
                case measure => simp [intOf]; omega
                case rel => exact ⟨j + 1, ks ++ [y], vh, ao', c', by omega, by go_num, by have := HB.out; show (ks ++ [y]).length = j + 1; simp; omega, HKs2.out, by show _ = _; rw [List.length_append]; exact blk_set HX4.out 5 _, ((KD.out.alloc _).grown HG4.out (fun q hq => by have := own_row OD.out q hq; omega)).setNew (Nat.le_refl _) _, ownsRow_setCell_below (OwnStrs.push HO4.out) (Nat.lt_succ_self _) _, HCi2.out, HSi2.out, RSt.other HT4.out hNM _⟩
              · have hkk : ∀ u, s6 = .ok u → j = m := fun u hu => Decidable.byContradiction fun hne => hgo2 ⟨by omega, u, hu⟩
                obtain ⟨hS, hGd⟩ := HCi.out.done R7.out HSi.out hkk
                have HS8 : Hid (stAfter (rdKeys 32) vf = s6) := hS
                have HG8 : Hid (GoodV (rdKeys 32) vf ks) := hGd
                have hne : j < m → stErr s6 ≠ 0 := by
                  intro hjm
                  have h3 := HTi.out
                  cases s6 with
                  | ok u => exact absurd ⟨hjm, u, rfl⟩ hgo2
                  | error e => exact h3.1
                generalize stErr s6 = ze at herr hne
                clear hS hGd hkk hgo2 HCi HSi
                by_cases hjm : j < m
                · have hz : (ze == 0) = false := by simpa using hne hjm
                  clear hne
                  go_wp2
                  go_meet
                  case rel => exact ⟨ks, s6, aK, cK, by have := HB.out; show ks.length ≤ 32; omega, HKs.out, HXi.out, HKi.out, HOi.out, HS8.out, HG8.out, HTi.out⟩
                · clear hne
                  go_wp2
                  go_meet
                  case rel => exact ⟨ks, s6, aK, cK, by have := HB.out; show ks.length ≤ 32; omega, HKs.out, HXi.out, HKi.out, HOi.out, HS8.out, HG8.out, HTi.out⟩
          case rest =>
            obtain ⟨ks, s6, aK, cK, HKl, HKs, HXc, HKc, HOc, HS8, HG8, HTc⟩ := hcut
            rename World => wd
            clear HX Kg Tg
            obtain ⟨hg, hs⟩ := HSS.out ks s6 HS8.out HG8.out
            have HC2 : Hid (Come rdSs n2 (k + 1) s4 (es.map Es.s ++ [(⟨(cl : Int), (ls : Int), (knd : Int), val, (ver : Int), ks, (sn : Int)⟩ : Ss)]) s6) := HC.out.step hkn hg hs
            have HS2 : Hid (∀ c, s4 = .error c → s6 = .error c) := fun c h => by have := HS.out c h; cases this
            have HSm2 : Hid (∀ s ∈ (es ++ [(⟨(⟨(cl : Int), (ls : Int), (knd : Int), val, (ver : Int), ks, (sn : Int)⟩ : Ss), aK, cK⟩ : Es)]).map Es.s, SSmall s) := fun s hs => by
              rw [List.map_append] at hs
              rcases List.mem_append.mp hs with hs | hs
              · exact HSm.out s hs
              · simp at hs; subst hs; exact ⟨hv64.out, HKl.out, HKs.out⟩
            have GD : Hid (G2 w wd tm aP cP ps aS cS es) := HG.out.step HKc.out
            have HT3 : Hid (RSt (w.heap.size + 1) wd s6) := HTc.out
            have OK9 : Hid (OwnStrs (w.heap.size + 3) wd aK cK ks) := own_mono HOc.out (by have := hMN.out; omega)
            have d0 := blk_at HXc.out 0 rfl
            have d1 := blk_at HXc.out 1 rfl
            have d2 := blk_at HXc.out 2 rfl
            have d3 := blk_at HXc.out 3 rfl
            have d4 := blk_at HXc.out 4 rfl
            have d5 := blk_at HXc.out 5 rfl
            have d6 := blk_at HXc.out 6 rfl
            have b1 := blk_at GD.out.tab 1 rfl
            have g1 := blk_free GD.out.tab 1
            have hl2 : w.heap.size + 2 < wd.heap.size := lt_of_block GD.out.tab
            have hl3 : w.heap.size + 3 ≤ wd.heap.size := by omega
            clear hg hs HC HS HKc HOc HTc HXc HT
            go_wp2_with (at_builtin; go_must (refine wpList_append_src _ rfl _ _ 63 63 rfl (w.heap.size + 3) 133 iS (.agg #[.int .i64 0, .int .i64 0, .int .i64 0, .string ⟨#[]⟩, .int .i64 0, .slice none 0 0, .int .i64 0]) 7 80 Try.underlying63 his his0 his1 his2 rfl _ _ _ rfl (World.ownsRow.alloc GD.out.sss.1 _) (.slice (some ⟨wd.heap.size, 0, none⟩) 1 1) 1 [.int .i64 cl, .int .i64 ls, .int .i64 knd, .string (bs val), .int .i64 ver, .slice aK ks.length cK, .int .i64 sn] rfl (src_ss (⟨(cl : Int), (ls : Int), (knd : Int), val, (ver : Int), ks, (sn : Int)⟩ : Ss) aK cK) HLL.out.1 HLL.out.2 (le_alloc hl3 _) ?_); intro ao' c' w4 ho' hg'; have HO4 : Hid _ := ho'; have HG4 : Hid _ := hg'; have HB4 := grown_old hg' (World.ownsRow.alloc GD.out.sss.1 _) (show w.heap.size + 2 < w.heap.size + 3 by omega) (blk_past GD.out.tab _); have q4 := blk_at HB4 1 rfl; have f4 := blk_free HB4 1; have HT4 : Hid _ := (RSt.grown (RSt.past HT3.out _) hg' (World.ownsRow.alloc GD.out.sss.1 _) (show w.heap.size + 1 < w.heap.size + 3 by omega)); clear HB4; clear ho' hg')
            go_roundg (n2 - (k + 1))
            case measure => omega
            case rel => exact ⟨k + 1, es ++ [(⟨(⟨(cl : Int), (ls : Int), (knd : Int), val, (ver : Int), ks, (sn : Int)⟩ : Ss), aK, cK⟩ : Es)], s6, ao', c', by omega, rfl, by go_num, by have := HA.out; show (es ++ [_]).length = k + 1; simp; omega, HSm2.out, GD.out.pushS (a := (⟨(cl : Int), (ls : Int), (knd : Int), val, (ver : Int), ks, (sn : Int)⟩ : Ss)) OK9.out HG4.out HO4.out, by rw [List.map_append]; exact HC2, HS2.out, RSt.other HT4.out (by simp) _⟩
        · have hkk : ∀ u, s5 = .ok u → k = n2 := fun u hu => Decidable.byContradiction fun hne => hgo ⟨by omega, u, hu⟩
          obtain ⟨hS, hGd⟩ := HC.out.done E3.out HS.out hkk
          have HS7 : Hid (stAfter (rdSss 8) s3 = s5) := hS
          have HG7 : Hid (GoodV (rdSss 8) s3 (es.map Es.s)) := hGd
          have hne : k < n2 → stErr s5 ≠ 0 := by
            intro hkn
            have h3 := HT.out
            cases s5 with
            | ok u => exact absurd ⟨hkn, u, rfl⟩ hgo
            | error e => exact h3.1
          generalize stErr s5 = ze at herr hne
          clear hS hGd hkk hgo HC HS
          by_cases hkn : k < n2
          · have hz : (ze == 0) = false := by simpa using hne hkn
            clear hne
            go_wp2
            go_meet
            case rel => exact ⟨es, s5, aS, cS, by have := HA.out; omega, HSm.out, HG.out, HS7.out, HG7.out, HT.out⟩
          · clear hne
            go_wp2
            go_meet
            case rel => exact ⟨es, s5, aS, cS, by have := HA.out; omega, HSm.out, HG.out, HS7.out, HG7.out, HT.out⟩
    case rest =>
      obtain ⟨es, s5, aS, cS, hl8, HSm, HG, HS7, HG7, HT⟩ := hcut
      rename World => wk
      obtain ⟨hg, hs⟩ := tbRun E1.out HS9.out HG9.out HS7.out HG7.out
      have b0 := blk_at HG.out.tab 0 rfl
      have b1 := blk_at HG.out.tab 1 rfl
      have b2 := blk_at HG.out.tab 2 rfl
      have HI := refTabN_any cP cS (tm : Int) aP aS ps es wk (prs_row HG.out.prs HP.out) (sss_row HG.out.sss HSm.out) hl hl8
      have HR := refAll_eq zTb (⟨(tm : Int), ps, es.map Es.s⟩ : Tb) rdTab l hg (fun c h => noZero_tab l c h)
      rw [hs] at HR
      clear hg hs hl hl8
      cases hok : Tb.ok (⟨(tm : Int), ps, es.map Es.s⟩ : Tb) with
      | true =>
        rw [hok, if_pos rfl] at HR
        rw [hok] at HI
        clear hok
        go_wp2_with fail
        refine HI.mono ?_
        rintro e wi ⟨rfl, ki⟩
        have Gi : Hid (G2 w wi tm aP cP ps aS cS es) := HG.out.step (ki.mono (fun _ _ x => x.elim))
        have Ti := HT.out.keptN ki
        clear ki b0 b1 b2 HI HT HG
        have E9 := refEnd_any (w.heap.size + 1) (s5) _ Ti
        by_cases hz : stEnd (s5) = 0
        · have HQ : Hid (getAll zTb (rdTab l) = ((⟨(tm : Int), ps, es.map Es.s⟩ : Tb), 0)) := HR.symm.trans (if_pos hz)
          rw [hz] at E9
          clear hz HR
          go_wp2_with fail
          refine E9.mono ?_
          rintro e w9 ⟨rfl, k9⟩
          have G9 : Hid (G2 w w9 tm aP cP ps aS cS es) := Gi.out.step k9
          have p0 := blk_at G9.out.tab 0 rfl
          have p1 := blk_at G9.out.tab 1 rfl
          have p2 := blk_at G9.out.tab 2 rfl
          have g0 := blk_at G9.out.res 0 rfl
          have g1 := blk_at G9.out.res 1 rfl
          have g2 := blk_at G9.out.res 2 rfl
          have f0 := blk_free G9.out.res 0
          have f1 := blk_free G9.out.res 1
          have f2 := blk_free G9.out.res 2
          clear k9
          go_wp2
          refine bodyPost_ret (v := .tuple #[.agg #[.slice aP ps.length cP, .slice aS es.length cS, .int .i64 tm], .int .i64 0]) (by simp [results, Try.results54, go_sem, g0, g1, g2]) rfl ?_
          rw [HQ.out]
          have hw : w.heap.size < w.heap.size + 3 := by omega
          exact ⟨_, rfl, ⟨aP, cP, aS, cS, es, rfl, rfl, own_mono (ownsRow_setCell_below (ownsRow_setCell_below (ownsRow_setCell_below G9.out.prs hw _) hw _) hw _) (Nat.le_of_lt hw), OwnSss.mono (OwnSss.setB (OwnSss.setB (OwnSss.setB G9.out.sss hw _) hw _) hw _) (Nat.le_of_lt hw)⟩, (((G9.out.kept.setNew (Nat.le_refl _) _).setNew (Nat.le_refl _) _).setNew (Nat.le_refl _) _)⟩
        · have HQ : Hid (getAll zTb (rdTab l) = (zTb, stEnd (s5))) := HR.symm.trans (if_neg hz)
          clear HR
          generalize stEnd (s5) = z at E9 hz HQ
          have hz' : (z != 0) = true := by simpa using hz
          clear hz
          go_wp2_with fail
          refine E9.mono ?_
          rintro e w9 ⟨rfl, k9⟩
          have G9 : Hid (G2 w w9 tm aP cP ps aS cS es) := Gi.out.step k9
          have g0 := blk_at G9.out.res 0 rfl
          have g1 := blk_at G9.out.res 1 rfl
          have g2 := blk_at G9.out.res 2 rfl
          have f0 := blk_free G9.out.res 0
          have f1 := blk_free G9.out.res 1
          have f2 := blk_free G9.out.res 2
          clear k9
          go_wp2
          refine bodyPost_ret (v := .tuple #[.agg #[.slice none 0 0, .slice none 0 0, .int .i64 0], .int .i64 z]) (by simp [results, Try.results54, go_sem, g0, g1, g2]) rfl ?_
          rw [HQ.out]
          exact ⟨_, rfl, ⟨none, 0, none, 0, [], rfl, rfl, World.ownsRow_nil _ _ _ _, World.ownsRow_nil _ _ _ _, fun _ h => by simp at h⟩, (((G9.out.kept.setNew (Nat.le_refl _) _).setNew (Nat.le_refl _) _).setNew (Nat.le_refl _) _)⟩
      | false =>
        rw [hok, if_neg (by decide)] at HR
        rw [hok] at HI
        clear hok
        go_wp2_with fail
        refine HI.mono ?_
        rintro e wi ⟨rfl, ki⟩
        have Gi : Hid (G2 w wi tm aP cP ps aS cS es) := HG.out.step (ki.mono (fun _ _ x => x.elim))
        have Ti := HT.out.keptN ki
        clear ki b0 b1 b2 HI HT HG
        go_wp2_with fail
        refine (badSt_any (w.heap.size + 1) s5 6 _ Ti (by decide)).mono ?_
        rintro e wj ⟨rfl, tj, kj⟩
        have Gj : Hid (G2 w wj tm aP cP ps aS cS es) := Gi.out.step kj
        clear kj
        have E9 := refEnd_any (w.heap.size + 1) (stBad 6 s5) _ tj
        by_cases hz : stEnd (stBad 6 s5) = 0
        · have HQ : Hid (getAll zTb (rdTab l) = ((⟨(tm : Int), ps, es.map Es.s⟩ : Tb), 0)) := HR.symm.trans (if_pos hz)
          rw [hz] at E9
          clear hz HR
          go_wp2_with fail
          refine E9.mono ?_
          rintro e w9 ⟨rfl, k9⟩
          have G9 : Hid (G2 w w9 tm aP cP ps aS cS es) := Gj.out.step k9
          have p0 := blk_at G9.out.tab 0 rfl
          have p1 := blk_at G9.out.tab 1 rfl
          have p2 := blk_at G9.out.tab 2 rfl
          have g0 := blk_at G9.out.res 0 rfl
          have g1 := blk_at G9.out.res 1 rfl
          have g2 := blk_at G9.out.res 2 rfl
          have f0 := blk_free G9.out.res 0
          have f1 := blk_free G9.out.res 1
          have f2 := blk_free G9.out.res 2
          clear k9
          go_wp2
          refine bodyPost_ret (v := .tuple #[.agg #[.slice aP ps.length cP, .slice aS es.length cS, .int .i64 tm], .int .i64 0]) (by simp [results, Try.results54, go_sem, g0, g1, g2]) rfl ?_
          rw [HQ.out]
          have hw : w.heap.size < w.heap.size + 3 := by omega
          exact ⟨_, rfl, ⟨aP, cP, aS, cS, es, rfl, rfl, own_mono (ownsRow_setCell_below (ownsRow_setCell_below (ownsRow_setCell_below G9.out.prs hw _) hw _) hw _) (Nat.le_of_lt hw), OwnSss.mono (OwnSss.setB (OwnSss.setB (OwnSss.setB G9.out.sss hw _) hw _) hw _) (Nat.le_of_lt hw)⟩, (((G9.out.kept.setNew (Nat.le_refl _) _).setNew (Nat.le_refl _) _).setNew (Nat.le_refl _) _)⟩
        · have HQ : Hid (getAll zTb (rdTab l) = (zTb, stEnd (stBad 6 s5))) := HR.symm.trans (if_neg hz)
          clear HR
          generalize stEnd (stBad 6 s5) = z at E9 hz HQ
          have hz' : (z != 0) = true := by simpa using hz
          clear hz
          go_wp2_with fail
          refine E9.mono ?_
          rintro e w9 ⟨rfl, k9⟩
          have G9 : Hid (G2 w w9 tm aP cP ps aS cS es) := Gj.out.step k9
          have g0 := blk_at G9.out.res 0 rfl
          have g1 := blk_at G9.out.res 1 rfl
          have g2 := blk_at G9.out.res 2 rfl
          have f0 := blk_free G9.out.res 0
          have f1 := blk_free G9.out.res 1
          have f2 := blk_free G9.out.res 2
          clear k9
          go_wp2
          refine bodyPost_ret (v := .tuple #[.agg #[.slice none 0 0, .slice none 0 0, .int .i64 0], .int .i64 z]) (by simp [results, Try.results54, go_sem, g0, g1, g2]) rfl ?_
          rw [HQ.out]
          exact ⟨_, rfl, ⟨none, 0, none, 0, [], rfl, rfl, World.ownsRow_nil _ _ _ _, World.ownsRow_nil _ _ _ _, fun _ h => by simp at h⟩, (((G9.out.kept.setNew (Nat.le_refl _) _).setNew (Nat.le_refl _) _).setNew (Nat.le_refl _) _)⟩

end Go.Proofs.Ytijklginabipgaa
