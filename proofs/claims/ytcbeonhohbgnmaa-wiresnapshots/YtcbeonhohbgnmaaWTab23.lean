/-
  What the document's GetTable rests on: readings by their runs, and the table in its box with its rows.
-/
import Derived.Test.YtcbeonhohbgnmaaWTab20
import Derived.Test.YtcbeonhohbgnmaaWTab6
import Derived.Test.YtcbeonhohbgnmaaWStepA
namespace Go.Proofs.Ytcbeonhohbgnmaa
open Go.RowKit

theorem refNumR {b : Nat} {st s' : Except Int (List UInt8)} {x : Nat} {w : World} (h : RSt b w st) (e : stRun rdNum 0 st = (x, s')) :
    Calls Try.prog 99 #[.pointer (some ⟨b, 0, none⟩)] w fun e w' => e = .returned (.int .i64 x) ∧ RSt b w' s' ∧ Kept (One b) w w' := by
  have H := refNumber_any b st w h
  rw [e] at H
  exact H
theorem refTextR {b most : Nat} {st s' : Except Int (List UInt8)} {x : List UInt8} {w : World} (h : RSt b w st) (e : stRun (rdText most) [] st = (x, s')) :
    Calls Try.prog 91 #[.pointer (some ⟨b, 0, none⟩), .int .i64 most] w fun e w' => e = .returned (.string (bs x)) ∧ RSt b w' s' ∧ Kept (One b) w w' := by
  have H := refText_any b most st w h
  rw [e] at H
  exact H
theorem refUpToR {b most : Nat} {st s' : Except Int (List UInt8)} {x : Nat} {w : World} (h : RSt b w st) (e : stRun (rdUpTo most) 0 st = (x, s')) :
    Calls Try.prog 140 #[.pointer (some ⟨b, 0, none⟩), .int .i64 most] w fun e w' => e = .returned (.int .i64 x) ∧ RSt b w' s' ∧ Kept (One b) w w' := by
  have H := refUpTo_any b most st w h
  rw [e] at H
  exact H
theorem run_ex {α : Type} (rd : List UInt8 → Except Int (α × List UInt8)) (d : α) (st : Except Int (List UInt8)) : ∃ x s', stRun rd d st = (x, s') := ⟨_, _, rfl⟩
theorem upToR_le {most n : Nat} {st s' : Except Int (List UInt8)} (e : stRun (rdUpTo most) 0 st = (n, s')) : n ≤ most := by
  have := stUpTo_le most st
  rw [e] at this
  exact this
theorem textR_le {most : Nat} {x : List UInt8} {st s' : Except Int (List UInt8)} (e : stRun (rdText most) [] st = (x, s')) : x.length ≤ most := by
  have := stText_le most st
  rw [e] at this
  exact this

/-- A pair, read by its runs. -/
theorem prRun {st s1 s2 s3 : Except Int (List UInt8)} {k v : List UInt8} {n : Nat} (h1 : stRun (rdText 16) [] st = (k, s1)) (h2 : stRun (rdText 64) [] s1 = (v, s2)) (h3 : stRun rdNum 0 s2 = (n, s3)) :
    GoodV rdPr st ⟨k, v, (n : Int)⟩ ∧ s3 = stAfter rdPr st := by
  constructor
  · refine GoodV_then (rdText 16) _ [] st _ ?_
    rw [h1]
    refine GoodV_then (rdText 64) _ [] s1 _ ?_
    rw [h2]
    refine GoodV_then rdNum _ 0 s2 _ ?_
    rw [h3]
    exact GoodV_all _ _
  · symm
    refine (stAfter_then (rdText 16) _ [] st).trans ?_
    rw [h1]
    refine (stAfter_then (rdText 64) _ [] s1).trans ?_
    rw [h2]
    refine (stAfter_then rdNum _ 0 s2).trans ?_
    rw [h3]
    exact stAfter_all _ _
/-- A session, read by its runs. -/
theorem ssRun {st s1 s2 s3 s4 s5 s6 s7 : Except Int (List UInt8)} {cl ls sn kd ver : Nat} {val : List UInt8} {ks : List (List UInt8)} (h1 : stRun rdNum 0 st = (cl, s1)) (h2 : stRun rdNum 0 s1 = (ls, s2)) (h3 : stRun rdNum 0 s2 = (sn, s3)) (h4 : stRun rdNum 0 s3 = (kd, s4)) (h5 : stRun (rdText 64) [] s4 = (val, s5)) (h6 : stRun rdNum 0 s5 = (ver, s6)) (h7 : stAfter (rdKeys 32) s6 = s7) (g7 : GoodV (rdKeys 32) s6 ks) :
    GoodV rdSs st ⟨(cl : Int), (ls : Int), (kd : Int), val, (ver : Int), ks, (sn : Int)⟩ ∧ s7 = stAfter rdSs st := by
  have hr := GoodV.run g7
  rw [h7] at hr
  have q1 : GoodV rdRs s3 ⟨kd, val, ver, ks⟩ := by
    refine GoodV_then rdNum _ 0 s3 _ ?_
    rw [h4]
    refine GoodV_then (rdText 64) _ [] s4 _ ?_
    rw [h5]
    refine GoodV_then rdNum _ 0 s5 _ ?_
    rw [h6]
    refine GoodV_then (rdKeys 32) _ ks s6 _ ?_
    rw [hr]
    exact GoodV_all _ _
  have q2 : stAfter rdRs s3 = s7 := by
    refine (stAfter_then rdNum _ 0 s3).trans ?_
    rw [h4]
    refine (stAfter_then (rdText 64) _ [] s4).trans ?_
    rw [h5]
    refine (stAfter_then rdNum _ 0 s5).trans ?_
    rw [h6]
    refine (stAfter_then (rdKeys 32) _ ks s6).trans ?_
    rw [hr]
    exact stAfter_all _ _
  have q3 := GoodV.run q1
  rw [q2] at q3
  constructor
  · refine GoodV_then rdNum _ 0 st _ ?_
    rw [h1]
    refine GoodV_then rdNum _ 0 s1 _ ?_
    rw [h2]
    refine GoodV_then rdNum _ 0 s2 _ ?_
    rw [h3]
    refine GoodV_then rdRs _ ⟨kd, val, ver, ks⟩ s3 _ ?_
    rw [q3]
    exact GoodV_all _ _
  · symm
    refine (stAfter_then rdNum _ 0 st).trans ?_
    rw [h1]
    refine (stAfter_then rdNum _ 0 s1).trans ?_
    rw [h2]
    refine (stAfter_then rdNum _ 0 s2).trans ?_
    rw [h3]
    refine (stAfter_then rdRs _ ⟨kd, val, ver, ks⟩ s3).trans ?_
    rw [q3]
    exact stAfter_all _ _
/-- A table, read by its runs. -/
theorem tbRun {st s1 s2 s3 : Except Int (List UInt8)} {tm : Nat} {ps : List Pr} {ss : List Ss} (h1 : stRun rdNum 0 st = (tm, s1)) (h2 : stAfter (rdPrs 32) s1 = s2) (g2 : GoodV (rdPrs 32) s1 ps) (h3 : stAfter (rdSss 8) s2 = s3) (g3 : GoodV (rdSss 8) s2 ss) :
    GoodV rdTab st ⟨(tm : Int), ps, ss⟩ ∧ stAfter rdTab st = if Tb.ok ⟨(tm : Int), ps, ss⟩ then s3 else stBad 6 s3 := by
  have r2 := GoodV.run g2
  rw [h2] at r2
  have r3 := GoodV.run g3
  rw [h3] at r3
  constructor
  · refine GoodV_then rdNum _ 0 st _ ?_
    rw [h1]
    refine GoodV_then (rdPrs 32) _ ps s1 _ ?_
    rw [r2]
    refine GoodV_then (rdSss 8) _ ss s2 _ ?_
    rw [r3]
    exact GoodV_end _ _ _ _
  · refine (stAfter_then rdNum _ 0 st).trans ?_
    rw [h1]
    refine (stAfter_then (rdPrs 32) _ ps s1).trans ?_
    rw [r2]
    refine (stAfter_then (rdSss 8) _ ss s2).trans ?_
    rw [r3]
    exact stAfter_end _ _ _ _
theorem noZero_pr : NoZero rdPr := (noZero_text 16).then fun _ => (noZero_text 64).then fun _ => noZero_num.then fun _ => NoZero.all _
theorem noZero_upTo (most : Nat) : NoZero (rdUpTo most) := fun _ _ h => rdUpTo_err h
theorem noZero_keys : NoZero (rdKeys 32) := (noZero_upTo 32).then fun n => rdTimes_err (noZero_text 16) n
theorem noZero_rs : NoZero rdRs := noZero_num.then fun _ => (noZero_text 64).then fun _ => noZero_num.then fun _ => noZero_keys.then fun _ => NoZero.all _
theorem noZero_ss : NoZero rdSs := noZero_num.then fun _ => noZero_num.then fun _ => noZero_num.then fun _ => noZero_rs.then fun _ => NoZero.all _
theorem noZero_tab : NoZero rdTab := noZero_num.then fun _ => ((noZero_upTo 32).then fun n => rdTimes_err noZero_pr n).then fun _ => ((noZero_upTo 8).then fun n => rdTimes_err noZero_ss n).then fun _ => NoZero.end _ _ _ (by decide)

/-- The table in its box, with its rows; the result's box. -/
structure G2 (w wr : World) (tm : Int) (aP : Option Addr) (cP : Nat) (ps : List Pr) (aS : Option Addr) (cS : Nat) (es : List Es) : Prop where
  kept : Kept Nil w wr
  res : wr.heap[w.heap.size]? = some (.cells #[.slice none 0 0, .slice none 0 0, .int .i64 0] 65 (0, 0))
  tab : wr.heap[w.heap.size + 2]? = some (.cells #[.slice aP ps.length cP, .slice aS es.length cS, .int .i64 tm] 65 (0, 0))
  prs : OwnPrs (w.heap.size + 3) wr aP cP ps
  sss : OwnSss (w.heap.size + 3) wr aS cS es

section
variable {w wr w' : World} {tm : Int} {aP aS : Option Addr} {cP cS : Nat} {ps : List Pr} {es : List Es}
theorem G2.step (h : G2 w wr tm aP cP ps aS cS es) (k : Kept (One (w.heap.size + 1)) wr w') : G2 w w' tm aP cP ps aS cS es :=
  ⟨Kept.ofNew h.kept k (fun j _ x => by have : j = w.heap.size + 1 := x; omega), k.block _ _ h.res (fun x => by have : w.heap.size = w.heap.size + 1 := x; omega), k.block _ _ h.tab (fun x => by have : w.heap.size + 2 = w.heap.size + 1 := x; omega),
    own_kept h.prs k (fun j _ hb x => by have : j = w.heap.size + 1 := x; omega), h.sss.kept k (fun j _ hb x => by have : j = w.heap.size + 1 := x; omega)⟩
theorem own_grownSelf {w' : World} {B B2 s1 s2 n1 n2 : Nat} {e1 e2 : TypeId} {v1 v2 : Value} {xs1 xs2 : List Value} {wa : World} (h1 : wa.ownsRow B e1 s1 v1 n1 xs1) (h2 : wa.ownsRow B2 e2 s2 v2 n2 xs2) (hne : e1 ≠ e2) (hg : wa.grownBy w' v2.ownBlock) : w'.ownsRow B e1 s1 v1 n1 xs1 := by
  refine ⟨h1.1, h1.2.imp id ?_⟩
  rintro ⟨g, cap, cur, a1, a2, a3, a4⟩
  refine ⟨g, cap, cur, a1, a2, ?_, a4⟩
  rw [hg.block g (lt_of_block a3) ?_]
  · exact a3
  · intro e
    rcases h2.2 with ⟨rfl, _⟩ | ⟨g2, cap2, cur2, rfl, b2, b3, _⟩
    · simp [Value.ownBlock] at e
    · simp only [Value.ownBlock, Option.some.injEq] at e
      subst e
      rw [a3] at b3
      simp only [Option.some.injEq, Obj.cells.injEq] at b3
      exact hne b3.2.1
/-- A block ahead of the rows stays where a row grows. -/
theorem grown_old {wa w' : World} {B n s : Nat} {e : TypeId} {v : Value} {xs : List Value} {k : Nat} {o : Obj} (hg : wa.grownBy w' v.ownBlock) (ho : wa.ownsRow B e s v n xs) (hk : k < B) (hb : wa.heap[k]? = some o) : w'.heap[k]? = some o := by
  rw [hg.block k (lt_of_block hb) (fun e => by have := own_row ho k e.symm; omega)]
  exact hb
theorem RSt.grown {wa w' : World} {b B n s : Nat} {e : TypeId} {v : Value} {xs : List Value} {st : Except Int (List UInt8)} (h : RSt b wa st) (hg : wa.grownBy w' v.ownBlock) (ho : wa.ownsRow B e s v n xs) (hk : b < B) : RSt b w' st := by
  cases st with
  | ok l => exact ⟨h.1, grown_old hg ho hk h.2⟩
  | error c => exact ⟨h.1, grown_old hg ho hk h.2⟩
theorem G2.pushP {o : Obj} {aP' : Option Addr} {cP' : Nat} {p : Pr} (h : G2 w wr tm aP cP ps aS cS es) (hg : (wr.alloc o).grownBy w' (Value.slice aP ps.length cP).ownBlock) (ho : w'.ownsRow (w.heap.size + 3) 95 3 (.slice aP' (ps.length + 1) cP') (ps.length + 1) (prCells ps ++ [.string (bs p.k), .string (bs p.v), .int .i64 p.n])) :
    G2 w (w'.setCell ⟨w.heap.size + 2, 0, none⟩ (.slice aP' (ps.length + 1) cP')) tm aP' cP' (ps ++ [p]) aS cS es := by
  have r := World.ownsRow.alloc h.prs o
  have t1 := grown_old hg r (show w.heap.size + 2 < w.heap.size + 3 by omega) (blk_past h.tab o)
  refine ⟨((h.kept.alloc o).grown hg (fun k hk => by have := own_row r k hk; omega)).setNew (by simp) _, blk_other (grown_old hg r (show w.heap.size < w.heap.size + 3 by omega) (blk_past h.res o)) (by simp) _, ?_, ownsRow_setCell_below (OwnPrs.push ho) (by simp) _, OwnSss.setB ⟨own_grownSelf (World.ownsRow.alloc h.sss.1 o) r (by decide) hg, fun e he => own_grownSelf (World.ownsRow.alloc (h.sss.2 e he) o) r (by decide) hg⟩ (by simp) _⟩
  rw [List.length_append]
  exact blk_set t1 0 _
theorem G2.pushS {o : Obj} {aS' aK : Option Addr} {cS' cK : Nat} {a : Ss} (h : G2 w wr tm aP cP ps aS cS es) (hk : OwnStrs (w.heap.size + 3) wr aK cK a.ks) (hg : (wr.alloc o).grownBy w' (Value.slice aS es.length cS).ownBlock) (ho : w'.ownsRow (w.heap.size + 3) 183 7 (.slice aS' (es.length + 1) cS') (es.length + 1) (esCells es ++ [.int .i64 a.cl, .int .i64 a.ls, .int .i64 a.kd, .string (bs a.val), .int .i64 a.ver, .slice aK a.ks.length cK, .int .i64 a.sn])) :
    G2 w (w'.setCell ⟨w.heap.size + 2, 1, none⟩ (.slice aS' (es.length + 1) cS')) tm aP cP ps aS' cS' (es ++ [⟨a, aK, cK⟩]) := by
  have r := World.ownsRow.alloc h.sss.1 o
  have t1 := grown_old hg r (show w.heap.size + 2 < w.heap.size + 3 by omega) (blk_past h.tab o)
  refine ⟨((h.kept.alloc o).grown hg (fun k hk => by have := own_row r k hk; omega)).setNew (by simp) _, blk_other (grown_old hg r (show w.heap.size < w.heap.size + 3 by omega) (blk_past h.res o)) (by simp) _, ?_, ownsRow_setCell_below (own_grownSelf (World.ownsRow.alloc h.prs o) r (by decide) hg) (by simp) _, OwnSss.setB (OwnSss.push ho (fun e he => own_grownSelf (World.ownsRow.alloc (h.sss.2 e he) o) r (by decide) hg) (own_grownSelf (World.ownsRow.alloc hk o) r (by decide) hg)) (by simp) _⟩
  rw [List.length_append]
  exact blk_set t1 1 _
end

end Go.Proofs.Ytcbeonhohbgnmaa
