/-
  What the program's writer does, method by method: its bytes behind each call, and what it leaves of memory.
-/
import Derived.Test.YtmlncfnnldplgaaProg
import Derived.Test.YtmlncfnnldplgaaWEnc
import Derived.Test.YtmlncfnnldplgaaWApp
import Derived.OwnWalk
import Derived.Deep.DeepMust
import Derived.Outline
namespace Go.Proofs.Ytmlncfnnldplgaa
open Go.RowKit

def cellsOf (l : List UInt8) : List Value := l.map fun c => Value.int .u8 c.toNat
theorem cellsOf_append (a b : List UInt8) : cellsOf (a ++ b) = cellsOf a ++ cellsOf b := by simp [cellsOf]

/-- The writer in block b has these bytes. -/
def WInv (b : Nat) (w : World) (l : List UInt8) : Prop :=
  ∃ ao c, w.heap[b]? = some (.cells #[.slice ao l.length c] 166 (0, 0)) ∧ w.ownsRow (b + 1) 5 1 (.slice ao l.length c) l.length (cellsOf l)
/-- What a writer's method may turn: its own block, and rows of bytes behind it. -/
def Wr (b : Nat) : Nat → Obj → Prop := fun k o => k = b ∨ (b < k ∧ ∃ cs m, o = .cells cs 5 m)

theorem Try.infoByte : (Try.prog.info? 5).map (fun i => (i.zero, i.size, i.bytes)) = some (some (.int .u8 0), 1, 1) := by kernel_rfl

theorem Kept.grownOwn {b : Nat} {w w' : World} {v : Value} {n : Nat} {xs : List Value} (hg : w.grownBy w' v.ownBlock) (ho : w.ownsRow (b + 1) 5 1 v n xs) : Kept (Wr b) w w' := by
  refine ⟨hg.os, hg.tape, hg.output, hg.size, fun k o hk hx => ?_⟩
  have hlt := lt_of_block hk
  rw [hg.block k hlt ?_, hk]
  intro e
  rcases ho.2 with ⟨rfl, _⟩ | ⟨g, cap, cur, rfl, hb, hh, _⟩
  · simp [Value.ownBlock] at e
  · simp [Value.ownBlock] at e
    subst e
    rw [hh] at hk
    exact hx (.inr ⟨by omega, cur, (0, 0), by simpa using hk.symm⟩)

/-- Behind an append and the store of its slice. -/
theorem WInv.put {b : Nat} {w w1 : World} {l news : List UInt8} {ao ao' : Option Addr} {c c' m : Nat} (hb : w.heap[b]? = some (.cells #[.slice ao l.length c] 166 (0, 0)))
    (ho : w.ownsRow (b + 1) 5 1 (.slice ao l.length c) l.length (cellsOf l)) (hm : m = news.length)
    (hn : w1.ownsRow (b + 1) 5 1 (.slice ao' (l.length + m) c') (l.length + m) (cellsOf l ++ cellsOf news)) (hg : w.grownBy w1 (Value.slice ao l.length c).ownBlock) :
    WInv b (w1.setCell ⟨b, 0, none⟩ (.slice ao' (l.length + m) c')) (l ++ news) ∧ Kept (Wr b) w (w1.setCell ⟨b, 0, none⟩ (.slice ao' (l.length + m) c')) := by
  subst hm
  have hk := Kept.grownOwn hg ho
  have hb1 : w1.heap[b]? = some (.cells #[.slice ao l.length c] 166 (0, 0)) := by
    rw [hg.block b (lt_of_block hb) ?_, hb]
    intro e
    have := (ho.lt b e.symm).1
    omega
  refine ⟨⟨ao', c', ?_, ?_⟩, hk.setCell (fun _ => .inl rfl) _⟩
  · have := blk_set hb1 0 (.slice ao' (l.length + news.length) c')
    simpa using this
  · rw [cellsOf_append]
    have := ownsRow_setCell_below hn (a := ⟨b, 0, none⟩) (by simp) (.slice ao' (l.length + news.length) c')
    simpa using this

theorem after_grow {b : Nat} {w w1 : World} {v : Value} {n : Nat} {xs : List Value} {o : Obj} (hb : w.heap[b]? = some o) (ho : w.ownsRow (b + 1) 5 1 v n xs) (hg : w.grownBy w1 v.ownBlock) : w1.heap[b]? = some o := by
  rw [hg.block b (lt_of_block hb) ?_, hb]
  intro e
  have := (ho.lt b e.symm).1
  omega
theorem le_alloc {w : World} {n : Nat} (h : n ≤ w.heap.size) (o : Obj) : n ≤ (w.alloc o).heap.size := by simp; omega

/-- One byte, laid in a block of its own, as what is appended. -/
theorem src_one {w : World} (d : UInt8) {y : Int} (hy : y = d.toNat) : Src Try.prog 1 140 (.slice (some ⟨w.heap.size, 0, none⟩) 1 1) 1 (cellsOf [d]) (w.alloc (.cells #[.int .u8 y] 5)) := by
  subst hy
  refine Src.ofSlice _ Try.underlying140 _ 1 1 _ rfl ?_ ?_
  · intro j u hj
    match j, hj with
    | 0, hj =>
      simp [cellsOf] at hj
      subst hj
      simp [Addr.add]
  · intro u hu
    simp [cellsOf] at hu
    subst hu
    rfl

set_option maxRecDepth 100000 in
set_option maxHeartbeats 1000000 in
theorem wNumber_any (b n : Nat) (l : List UInt8) (w : World) (h : WInv b w l) (hn : n ≤ 1099511627775) (hl : l.length ≤ 1099511627775) :
    Calls Try.prog 93 #[.pointer (some ⟨b, 0, none⟩), .int .i64 n] w fun e w' => e = .returned (.tuple #[]) ∧ WInv b w' (l ++ enc n) ∧ Kept (Wr b) w w' := by
  obtain ⟨i0, hi, hz0, hz1, hz2⟩ := info_parts Try.infoByte
  have hn' : (n : Int) ≤ 1099511627775 := by omega
  have HN : Hid ((enc n).length ≤ 6) := enc_len6 hn
  have HL : Hid (l.length ≤ 1099511627775) := hl
  clear hn hl
  go_enter Try.func93, Try.ntmps93
  go_wp2
  go_loopw [4] (fun t wr => ∃ r : Nat, ∃ l' : List UInt8, (r : Int) ≤ 1099511627775 ∧ t = .int .u64 r ∧ WInv b wr l' ∧ Hid (l' ++ enc r = l ++ enc n) ∧ Kept (Wr b) w wr) (fun t _ => (intOf t).toNat)
  case atStart => exact ⟨n, l, hn', by go_num, h, rfl, .refl _ _⟩
  case round =>
    obtain ⟨r, l', hr, rfl, ⟨ao, c, hb, ho⟩, HE, hk⟩ := hrel
    have h0 : wr.cell? ⟨b, 0, none⟩ = some (.slice ao l'.length c) := blk_cell hb 0
    have f0 := blk_free hb 0
    have HLL : Hid (l'.length + 1 ≤ maxLen ∧ (l'.length + 1) * 1 ≤ 140737488355328) := by
      have h1 := congrArg List.length HE.out
      have h2 := HN.out
      have h3 := HL.out
      simp at h1
      constructor
      · unfold maxLen; omega
      · omega
    have HB : Hid (b + 1 ≤ wr.heap.size) := lt_of_block hb
    by_cases h128 : r < 128
    · obtain ⟨d, hE, hd⟩ := enc_small_byte h128
      have HD : Hid (enc r = [d]) := hE
      have DD : Hid ((r : Int) = d.toNat) := by show (r : Int) = _; omega
      clear hE hd
      go_wp2_with (first | (at_builtin; go_must (refine wpList_append_src _ rfl _ _ 140 140 rfl (b + 1) 5 i0 (.int .u8 0) 1 1 Try.underlying140 hi hz0 hz1 hz2 rfl _ _ _ rfl (ho.alloc _) (.slice (some ⟨wr.heap.size, 0, none⟩) 1 1) 1 (cellsOf [d]) rfl (src_one d DD.out) HLL.out.1 HLL.out.2 (le_alloc HB.out _) ?_); intro ao' c' w1 ho' hg'; have hb1 := after_grow (blk_past hb _) (ho.alloc _) hg'; have h1 : w1.cell? ⟨b, 0, none⟩ = some (.slice ao l'.length c) := blk_cell hb1 0; have f1 := blk_free hb1 0; have HP : Hid _ := WInv.put (m := 1) (news := [d]) (blk_past hb _) (ho.alloc _) rfl ho' hg'; clear ho' hg' hb1))
      go_end0
      refine ⟨rfl, ?_, hk.trans (((Kept.refl _ _).alloc _).trans HP.out.2)⟩
      rw [← HE.out, HD.out]
      exact HP.out.1
    · obtain ⟨d, hE, hd⟩ := enc_big_byte h128
      have HD : Hid (enc r = d :: enc (r / 128)) := hE
      have hbit := or128 r
      rw [← hd] at hbit
      clear hE hd
      go_wp2_with (first | (at_builtin; go_must (refine wpList_append_src _ rfl _ _ 140 140 rfl (b + 1) 5 i0 (.int .u8 0) 1 1 Try.underlying140 hi hz0 hz1 hz2 rfl _ _ _ rfl (ho.alloc _) (.slice (some ⟨wr.heap.size, 0, none⟩) 1 1) 1 (cellsOf [d]) rfl (src_one d rfl) HLL.out.1 HLL.out.2 (le_alloc HB.out _) ?_); intro ao' c' w1 ho' hg'; have hb1 := after_grow (blk_past hb _) (ho.alloc _) hg'; have h1 : w1.cell? ⟨b, 0, none⟩ = some (.slice ao l'.length c) := blk_cell hb1 0; have f1 := blk_free hb1 0; have HP : Hid _ := WInv.put (m := 1) (news := [d]) (blk_past hb _) (ho.alloc _) rfl ho' hg'; clear ho' hg' hb1))
      go_roundw
      case rel => exact ⟨r / 128, l' ++ [d], by omega, by go_num, HP.out.1, by show (l' ++ [d]) ++ enc (r / 128) = _; rw [← HE.out, HD.out]; simp, hk.trans (((Kept.refl _ _).alloc _).trans HP.out.2)⟩
      case measure => simp [intOf]; omega

end Go.Proofs.Ytmlncfnnldplgaa
