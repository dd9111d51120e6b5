/-
  Joined: WSs6, WSsP.
-/
import Derived.Test.YtpfgnhockfofhaaGreatH31
import Derived.Test.YtpfgnhockfofhaaGreatH45
import Derived.Test.YtpfgnhockfofhaaGreatH30
import Derived.Test.YtpfgnhockfofhaaGreatH38
/-
  The document's shards: NewShards.
-/
namespace Go.Proofs.YtpfgnhockfofhaaGreat
open Go.RowKit

theorem NyX.start (w : World) : NyX (fun j g => j = 10 ∧ g = w.heap.size) w (w.alloc (.cells #[.slice none 0 0, .slice none 0 0] 56)) w.heap.size none 0 (fun _ => 0) 0 :=
  ⟨blk_new _ _, ⟨rfl, rfl⟩, World.ownsRow_nil _ _ _ _, fun g hg => by simp [Value.ownBlock] at hg, fun i hi => by omega, fun i j g h1 h2 => h1.1.trans h2.1.symm, fun i g h => ⟨by rw [h.2]; exact Nat.le_refl _, by rw [h.2]; simp⟩, (Kept.refl _ _).alloc _⟩
theorem Tryz.infoHy : (Tryz.prog.info? 60).map (fun i => (i.zero, i.size, i.bytes)) = some (some (.pointer none), 1, 8) := by kernel_rfl
theorem oneHy_src (w : World) (b : Nat) : Src Tryz.prog 1 54 (.slice (some ⟨w.heap.size, 0, .none⟩) 1 1) 1 [.pointer (some ⟨b, 0, .none⟩)] (w.alloc (.cells #[.pointer (some ⟨b, 0, .none⟩)] 60)) := by
  refine Src.ofSlice _ Tryz.underlying54 ⟨w.heap.size, 0, .none⟩ 1 1 _ rfl ?_ (fun u hu => by simp at hu; rcases hu with rfl; rfl)
  intro j u hj
  rw [addr_addE, blk_cell (blk_new w (.cells #[.pointer (some ⟨b, 0, .none⟩)] 60)), ← hj]
  simp
set_option maxRecDepth 100000 in
set_option maxHeartbeats 2000000 in
theorem newSh_no (id : Int) (w : World) (hn : isNd id = false) :
    Calls Tryz.prog 6 #[.int .i64 id] w fun e w' => e = .returned (.tuple #[.pointer none, .int .i64 4]) ∧ w' = w := by
  have hd : id < 1 ∨ (¬ id < 1 ∧ id > 9) := by
    unfold isNd at hn
    by_cases h1 : id < 1
    · exact .inl h1
    · refine .inr ⟨h1, ?_⟩
      by_cases h2 : id > 9
      · exact h2
      · rw [decide_eq_true (by omega), decide_eq_true (by omega)] at hn; cases hn
  clear hn
  rcases hd with h1 | ⟨h1, h2⟩
  · go_enter Tryz.func6, Tryz.ntmps6
    go_wp2
    go_ret2
    exact ⟨rfl, rfl⟩
  · go_enter Tryz.func6, Tryz.ntmps6
    go_wp2
    go_ret2
    exact ⟨rfl, rfl⟩
theorem fresh_hy {id : Int} {w0 w2 : World} {rb : Nat} (r : Ry (fun _ => False) w2 rb id (fun _ => oh0) (fun _ => none) (fun _ => 0)) (hr : w0.heap.size ≤ rb) (k : Kept Nil w0 w2) : HyM (fun g => w0.heap.size ≤ g) ((w2.alloc (.cells #[.string (bs []), .int .i64 1] 62)).alloc (.cells #[.pointer (some ⟨rb, 0, none⟩), .slice none 0 0, .slice (some ⟨w2.heap.size, 0, none⟩) 1 1] 66)) (w2.heap.size + 1) id hd0 := by
  have k2 : Kept Nil w2 ((w2.alloc (.cells #[.string (bs []), .int .i64 1] 62)).alloc (.cells #[.pointer (some ⟨rb, 0, none⟩), .slice none 0 0, .slice (some ⟨w2.heap.size, 0, none⟩) 1 1] 66)) := ((Kept.refl _ _).alloc _).alloc _
  have k1 : Kept Nil (w2.alloc (.cells #[.string (bs []), .int .i64 1] 62)) ((w2.alloc (.cells #[.string (bs []), .int .i64 1] 62)).alloc (.cells #[.pointer (some ⟨rb, 0, none⟩), .slice none 0 0, .slice (some ⟨w2.heap.size, 0, none⟩) 1 1] 66)) := (Kept.refl _ _).alloc _
  have ob : OwnB w2.heap.size (w2.alloc (.cells #[.string (bs []), .int .i64 1] 62)) (some ⟨w2.heap.size, 0, none⟩) 1 [⟨[], 1⟩] := World.ownsRow_lit w2 #[.string (bs []), .int .i64 1] 1 (Nat.le_refl _) (by decide) rfl
  exact ⟨rb, fun _ => none, fun _ => 0, none, 0, w2.heap.size, 1, ⟨blk_new1 w2 _ _, Nat.le_succ_of_le k.size, hr, (r.kept k2).up (fun g hg => hg.elim), World.ownsRow_nil _ _ _ _, fun g hg => by simp [Value.ownBlock] at hg, (ob.kept k1).mono (Nat.zero_le _), k.size⟩⟩
set_option maxRecDepth 100000 in
set_option maxHeartbeats 4000000 in
theorem newSh_yes (n : Nat) (w : World) (h1 : 1 ≤ n) (h9 : n ≤ 9) :
    Calls Tryz.prog 6 #[.int .i64 n] w fun e w' => ∃ b, e = .returned (.tuple #[.pointer (some ⟨b, 0, none⟩), .int .i64 0]) ∧ (∃ Gs hb ch hs, SyX Gs w' b hb ch hs none 0 (sd0 n) ∧ ∀ i g, Gs i g → w.heap.size ≤ g) ∧ Kept Nil w w' := by
  obtain ⟨i0, hi0, hz0, hz1, hz2⟩ := info_parts Tryz.infoHy
  obtain ⟨W, hW⟩ : ∃ W, W = w.alloc (.cells #[.slice none 0 0, .slice none 0 0] 56) := ⟨_, rfl⟩
  obtain ⟨b, HB⟩ : ∃ b : Nat, Hid (b = w.heap.size) := ⟨_, rfl⟩
  have HNW : Hid (NyX (fun j g => j = 10 ∧ g = w.heap.size) w W b none 0 (fun _ => 0) 0) := by rw [hW, HB.out]; exact NyX.start w
  have hni : (n : Int) ≤ 9 := by omega
  have hn1 : ¬ (n : Int) < 1 := by omega
  have hn9 : ¬ (n : Int) > 9 := by omega
  have be : (bs [] : ByteArray) = ⟨#[]⟩ := rfl
  go_enter Tryz.func6, Tryz.ntmps6
  go_upto_region 4 with fail
  rw [← hW, ← HB.out]
  clear hW
  go_wp2
  go_loopw [5] (fun u wr => ∃ k m ch : Nat, ∃ ao hs Gs, k ≤ n ∧ Hid (m = k + 1) ∧ u = .int .i64 m ∧ Hid (NyX Gs w wr b ao ch hs k)) (fun u _ => n + 1 - (intOf u).toNat)
  case atStart => exact ⟨0, 1, 0, none, _, _, Nat.zero_le _, rfl, rfl, HNW.out⟩
  case round =>
    obtain ⟨k, m, ch, ao, hs, Gs, hk, HM, rfl, HX⟩ := hrel
    by_cases hlt : k < n
    · have hmi : (m : Int) ≤ (n : Int) := by have := HM.out; omega
      have NR := newY_yes (m : Int) wr (nd_of h9 ⟨by have := HM.out; omega, hmi⟩)
      go_wp2_with fail
      go_fit NR
      rintro e w2 ⟨rfl, r2, k2⟩
      have HY2 : Hid (HyM (fun g => wr.heap.size ≤ g) ((w2.alloc (.cells #[.string (bs []), .int .i64 1] 62)).alloc (.cells #[.pointer (some ⟨wr.heap.size, 0, none⟩), .slice none 0 0, .slice (some ⟨w2.heap.size, 0, none⟩) 1 1] 66)) (w2.heap.size + 1) (k + 1 : Nat) hd0) := by rw [← HM.out]; exact fresh_hy r2 (Nat.le_refl _) k2
      have HK2 : Hid (Kept Nil wr ((w2.alloc (.cells #[.string (bs []), .int .i64 1] 62)).alloc (.cells #[.pointer (some ⟨wr.heap.size, 0, none⟩), .slice none 0 0, .slice (some ⟨w2.heap.size, 0, none⟩) 1 1] 66))) := (k2.alloc _).alloc _
      have HB2 : Hid (w2.heap[b]? = some (.cells #[.slice ao k ch, .slice none 0 0] 56 (0, 0))) := k2.block _ _ HX.out.blk (fun e => e)
      have c0 : w2.cell? ⟨b, 0, none⟩ = some (.slice ao k ch) := blk_at HB2.out 0 rfl
      have hb2 : b < w2.heap.size := lt_of_block HB2.out
      have HR4 : Hid (((w2.alloc (.cells #[.string (bs []), .int .i64 1] 62)).alloc (.cells #[.pointer (some ⟨wr.heap.size, 0, none⟩), .slice none 0 0, .slice (some ⟨w2.heap.size, 0, none⟩) 1 1] 66)).ownsRow 0 60 1 (.slice ao k ch) k (hsL hs k)) := own_kept HX.out.row HK2.out (fun _ _ _ e => e)
      have HB4 : Hid (((w2.alloc (.cells #[.string (bs []), .int .i64 1] 62)).alloc (.cells #[.pointer (some ⟨wr.heap.size, 0, none⟩), .slice none 0 0, .slice (some ⟨w2.heap.size, 0, none⟩) 1 1] 66)).heap[b]? = some (.cells #[.slice ao k ch, .slice none 0 0] 56 (0, 0))) := HK2.out.block _ _ HX.out.blk (fun e => e)
      have HNE : Hid ((Value.slice ao k ch).ownBlock ≠ some b) := fun e => by
        rcases HR4.out.2 with ⟨e1, _⟩ | ⟨g', cap, cur, e1, _, h2, _⟩
        · rw [e1] at e; simp [Value.ownBlock] at e
        · rw [e1] at e
          have e2 : g' = b := by simpa [Value.ownBlock] using e
          subst e2
          have := HB4.out
          rw [h2] at this
          cases this
      have HLL : Hid (k + 1 ≤ maxLen ∧ (k + 1) * 8 ≤ 140737488355328) := by constructor <;> (try unfold maxLen) <;> omega
      obtain ⟨W4, hW4⟩ : ∃ W4, W4 = ((w2.alloc (.cells #[.string (bs []), .int .i64 1] 62)).alloc (.cells #[.pointer (some ⟨wr.heap.size, 0, none⟩), .slice none 0 0, .slice (some ⟨w2.heap.size, 0, none⟩) 1 1] 66)) := ⟨_, rfl⟩
      have hs4 : W4.heap.size = w2.heap.size + 2 := by rw [hW4]; simp
      have SR := oneHy_src ((w2.alloc (.cells #[.string (bs []), .int .i64 1] 62)).alloc (.cells #[.pointer (some ⟨wr.heap.size, 0, none⟩), .slice none 0 0, .slice (some ⟨w2.heap.size, 0, none⟩) 1 1] 66)) (w2.heap.size + 1)
      rw [show ((w2.alloc (.cells #[.string (bs []), .int .i64 1] 62)).alloc (.cells #[.pointer (some ⟨wr.heap.size, 0, none⟩), .slice none 0 0, .slice (some ⟨w2.heap.size, 0, none⟩) 1 1] 66)).heap.size = w2.heap.size + 1 + 1 by simp] at SR
      clear NR r2 k2 hW4 hs4
      go_wp2_with (at_builtin; go_must (refine wpList_append_at _ rfl _ _ 54 54 rfl 0 60 i0 (.pointer none) 1 8 Tryz.underlying54 hi0 hz0 hz1 hz2 rfl (.slice ao k ch) k (hsL hs k) rfl (World.ownsRow.alloc HR4.out _) (.slice (some ⟨w2.heap.size + 1 + 1, 0, none⟩) 1 1) 1 [.pointer (some ⟨w2.heap.size + 1, 0, none⟩)] rfl SR HLL.out.1 HLL.out.2 (Nat.zero_le _) ?_); intro a3 c3 w3 r3 g3 t3; have HN3 : Hid (∃ Gs', NyX Gs' w (w3.setCell ⟨b, 0, none⟩ (.slice a3 (k + 1) c3)) b a3 c3 (upd hs k (w2.heap.size + 1)) (k + 1)) := HX.out.next (by omega) HY2.out HK2.out r3 g3 (fun g hg => (t3 g hg).imp id (fun h => by simp at h ⊢; omega)); have s3 : w3.heap[b]? = some (.cells #[.slice ao k ch, .slice none 0 0] 56 (0, 0)) := (by rw [g3.block b (by simp; omega) (fun e => HNE.out e.symm)]; exact blk_past HB4.out _); have e3 : w3.cell? ⟨b, 0, none⟩ = some (.slice ao k ch) := blk_at s3 0 rfl; have f3 : w3.frozen? ⟨b, 0, none⟩ = false := blk_free s3 _; clear r3 g3 t3 s3)
      obtain ⟨Gs', HN4⟩ := HN3.out
      go_roundw
      case rel => exact ⟨k + 1, m + 1, c3, a3, _, Gs', by omega, (by show m + 1 = k + 1 + 1; rw [HM.out]), by congr 1, HN4⟩
      case measure => have := HM.out; simp [intOf]; omega
    · obtain rfl : k = n := by omega
      have hmi : ¬ (m : Int) ≤ (k : Int) := by have := HM.out; omega
      go_wp2
      go_ret2
      obtain ⟨hb, y⟩ := HX.out.done h1 h9
      exact ⟨b, rfl, ⟨Gs, ⟨hb, ch, hs, y⟩, fun i g hg => (HX.out.lt i g hg).1⟩, HX.out.kw⟩
end Go.Proofs.YtpfgnhockfofhaaGreat

/-
  ShardExact: the law's walk.
-/
namespace Go.Proofs.YtpfgnhockfofhaaGreat
open Go.RowKit

theorem Kept.sinceX {w a b : World} (h : Kept Nil w a) (k : Kept (Since w) a b) : Kept Nil w b := ⟨k.os.trans h.os, k.tape.trans h.tape, k.output.trans h.output, Nat.le_trans h.size k.size, fun q o ho _ => k.block q o (h.block q o ho (fun x => x)) (fun e => by have := lt_of_block ho; have e : w.heap.size ≤ q := e; omega)⟩
theorem Kept.oneX {w a : World} {c : Nat} {o' : Obj} (k : Kept (One c) (w.alloc o') a) (hc : c = w.heap.size) : Kept Nil w a := by
  have h : Kept Nil w (w.alloc o') := (Kept.refl _ _).alloc _
  refine ⟨k.os.trans h.os, k.tape.trans h.tape, k.output.trans h.output, Nat.le_trans h.size k.size, fun q o ho _ => k.block q o (h.block q o ho (fun x => x)) (fun e => ?_)⟩
  have := lt_of_block ho
  have e : q = c := e
  omega
theorem Two.start {w w1 w2 : World} {b d n : Nat} (hw : w.heap.size ≤ w1.heap.size) (k : Kept Nil w1 w2)
    (x : ∃ Gs hb ch hs, ShX Gs w1 b hb ch hs none 0 (sd0 n) ∧ ∀ i g, Gs i g → w.heap.size ≤ g) (y : ∃ Gs hb ch hs, SyX Gs w2 d hb ch hs none 0 (sd0 n) ∧ ∀ i g, Gs i g → w1.heap.size ≤ g) : Two w w2 b d (sd0 n) (sd0 n) := by
  obtain ⟨Gs, hb, ch, hs, x, hx⟩ := x
  obtain ⟨Gy, hd, cd, hy, y, hy'⟩ := y
  have x' := x.kept k
  refine ⟨fun g => ∃ i, Gs i g, fun g => ∃ i, Gy i g, x'.m (fun i g h => ⟨i, h⟩), y.m (fun i g h => ⟨i, h⟩), ?_, ?_, ?_⟩
  · rintro g ⟨i, hi⟩ ⟨j, hj⟩
    have h1 := x.lt i g hi
    have h2 := hy' j g hj
    omega
  · rintro g ⟨i, hi⟩
    exact ⟨hx i g hi, x'.lt i g hi⟩
  · rintro g ⟨i, hi⟩
    exact ⟨Nat.le_trans hw (hy' i g hi), y.lt i g hi⟩
/-- What lies between two worlds' ends. -/
def Span (w0 w1 : World) : Nat → Obj → Prop := fun q _ => w0.heap.size ≤ q ∧ q < w1.heap.size
theorem two_doY2 (K : List (List UInt8)) (M b d : Nat) (w0 w5 w : World) (S T : Sd) (s : Sp) (hw : w0.heap.size ≤ w5.heap.size) (h : Two w0 w5 b d S T) (kn : Kept Nil w5 w) (inv : Inv K M T) (hM : M ≤ 1900000) :
    Calls Tryz.prog 7 #[.pointer (some ⟨d, 0, none⟩), .agg (stC s)] w fun e w' => e = .returned (.agg (anC (doS s T).1)) ∧ Two w0 w' b d S (doS s T).2 ∧ Kept (Span w0 w5) w w' := by
  obtain ⟨G1, G2, x, y, hd, h1, h2⟩ := h
  have x := x.keptX kn (fun _ _ _ e => e)
  obtain ⟨Gs, hb, ch, hs, aw, cw, y, hG⟩ := y.keptX kn (fun _ _ _ e => e)
  refine (doY_any K M Gs d hb ch cw hs aw T s w y inv hM).mono ?_
  rintro e w' ⟨he, hp⟩
  obtain ⟨y', k⟩ := hp.m hG
  exact ⟨he, (Two.right (Nat.le_trans hw kn.size) x hd (fun g hg => ⟨(h1 g hg).1, Nat.lt_of_lt_of_le (h1 g hg).2 kn.size⟩) (fun g hg => ⟨(h2 g hg).1, Nat.lt_of_lt_of_le (h2 g hg).2 kn.size⟩) y' k).1, k.mono (fun q _ e => h2 q e)⟩
theorem SpRow.kept {B : Nat} {w w' : World} {ao : Option Addr} {l : List Sp} (h : SpRow B w ao l) (k : Kept Nil w w') : SpRow B w' ao l := fun j hj => by
  obtain ⟨a, e, hg, hc⟩ := h j hj
  exact ⟨a, e, hg, fun r v hv => cell_kept k (fun _ e => e) (hc r v hv)⟩
theorem firstSet : ∃ ho rv, (doS ⟨1, 1, 0, 0, [97], [], []⟩ (sd0 1)).1 = ⟨0, ho, 1, rv⟩ := ⟨_, _, rfl⟩
theorem min_rem (t : Int) : (min (t.tmod 5) 100).toNat ≤ 4 := by
  have := Int.tmod_lt_of_pos t (b := 5) (by omega)
  omega

set_option maxRecDepth 100000 in
set_option maxHeartbeats 20000000 in
theorem shardExact_any (w : World) (c : Nat) (hn t : Int) (ao : Option Addr) (ss : List Sp) (h : SpRow w.heap.size w ao ss) (hl : ss.length ≤ 1048576) (hle : ∀ s ∈ ss, s.ky.length ≤ 1048576 ∧ s.up.length ≤ 1048576 ∧ s.vl.length ≤ 1048576) :
    Calls Tryz.prog 3 #[.int .i64 hn, .slice ao ss.length c, .int .i64 t] w fun e w' => e = .returned (.bool true) ∧ Kept Nil w w' := by
  have HR : Hid (SpRow w.heap.size w ao ss) := h
  have HLE : Hid (∀ s ∈ ss, s.ky.length ≤ 1048576 ∧ s.up.length ≤ 1048576 ∧ s.vl.length ≤ 1048576) := hle
  have NW := newS_yes 1 w (by omega) (by omega)
  clear h hle
  go_enter Tryz.func3, Tryz.ntmps3
  go_wp2_with fail
  go_fit NW
  rintro e w1 ⟨b1, rfl, ⟨Gs1, hb1, ch1, hs1, x1, g1⟩, k1⟩
  have K1 : Hid (Kept Nil w w1) := k1
  have D1 := do_any [] 0 Gs1 b1 hb1 ch1 0 hs1 none (sd0 1) ⟨1, 1, 0, 0, [97], [], []⟩ w1 x1 (Inv.start ⟨Nat.le_refl _, by omega⟩) (by omega) ⟨by decide, by decide, by decide⟩
  have D2 : Calls Tryz.prog 5 #[.pointer (some ⟨b1, 0, none⟩), .agg (stC ⟨1, 1, 0, 0, [97], [], []⟩)] w1 fun e w' => (∃ ho rv, e = .returned (.agg (anC ⟨0, ho, 1, rv⟩))) ∧ Kept Nil w w' := by
    refine D1.mono ?_
    rintro e w' ⟨he, hp⟩
    obtain ⟨ho, rv, hd⟩ := firstSet
    rw [hd] at he
    refine ⟨⟨ho, rv, he⟩, K1.out.sinceX (hp.2.mono fun q _ e => ?_)⟩
    obtain ⟨j, e⟩ := e
    exact g1 j q e
  unfold stC at D2
  clear D1 x1 g1 k1 NW
  go_wp2_with fail
  go_fit D2
  rintro e w2 ⟨⟨ho, rv, rfl⟩, k2⟩
  have K2 : Hid (Kept Nil w w2) := k2
  unfold anC
  have fd1 : ∀ Y, (Instr.field 31 (.agg #[.int .i64 0, .int .i64 ho, .int .i64 1, .string (bs rv), .int .i64 0, .slice none 0 0]) 2).run Tryz.prog Y = .ok (.agg #[.int .i64 1, .string (bs rv), .int .i64 0, .slice none 0 0]) Y := fun _ => by kernel_rfl
  have fd2 : ∀ Y, (Instr.field 29 (.agg #[.int .i64 1, .string (bs rv), .int .i64 0, .slice none 0 0]) 0).run Tryz.prog Y = .ok (.int .i64 1) Y := fun _ => by kernel_rfl
  clear D2 k2 K1
  cases hd : isNd hn with
  | false =>
    have NX := newS_no hn w2 hd
    have NY := newSh_no hn w2 hd
    clear hd
    go_wp2_with fail
    go_fit NX
    clear fd1 fd2
    rintro e _ ⟨rfl, hw9⟩
    rw [hw9]
    clear hw9 NX
    go_wp2_with fail
    go_fit NY
    rintro e _ ⟨rfl, hw9⟩
    rw [hw9]
    clear hw9 NY
    go_wp2
    go_ret
    exact ⟨rfl, K2.out⟩
  | true =>
    obtain ⟨n, hn', h1, h9⟩ : ∃ n : Nat, hn = (n : Int) ∧ 1 ≤ n ∧ n ≤ 9 := by
      unfold isNd at hd
      simp at hd
      exact ⟨hn.toNat, by omega, by omega, by omega⟩
    subst hn'
    have NX := newS_yes n w2 h1 h9
    have HN : Hid (1 ≤ n ∧ n ≤ 9) := ⟨h1, h9⟩
    clear hd h1 h9
    go_wp2_with fail
    go_fit NX
    clear fd1 fd2
    rintro e w3 ⟨b, rfl, x3, k3⟩
    have HX3 : Hid (∃ Gs hb ch hs, ShX Gs w3 b hb ch hs none 0 (sd0 n) ∧ ∀ i g, Gs i g → w2.heap.size ≤ g) := x3
    have K3 : Hid (Kept Nil w2 w3) := k3
    have NY := newSh_yes n w3 HN.out.1 HN.out.2
    clear x3 k3 NX
    go_wp2_with fail
    go_fit NY
    rintro e w4 ⟨d, rfl, y4, k4⟩
    have HT4 : Hid (Two w w4 b d (sd0 n) (sd0 n)) := by
      refine Two.start (Nat.le_trans K2.out.size K3.out.size) k4 ?_ y4
      obtain ⟨Gs, hb, ch, hs, x, hx⟩ := HX3.out
      exact ⟨Gs, hb, ch, hs, x, fun i g hg => Nat.le_trans K2.out.size (hx i g hg)⟩
    have K4 : Hid (Kept Nil w w4) := (K2.out.trans K3.out).trans k4
    clear y4 k4 NY HX3 K3 K2
    go_wp2
    go_loopw [13] (fun u wr => ∃ k : Nat, k ≤ ss.length ∧ u = .int .i64 k ∧ Hid (Two w wr b d (runS (ss.take k) (sd0 n)) (runS (ss.take k) (sd0 n))) ∧ Hid (Kept Nil w wr)) (fun u _ => ss.length - (intOf u).toNat)
    case atStart => exact ⟨0, Nat.zero_le _, rfl, HT4.out, K4.out⟩
    case round =>
      obtain ⟨k, hk, rfl, HT, HK⟩ := hrel
      clear HT4 K4
      have HIN : Hid (Inv ((ss.take k).foldl (fun a s => s.ky :: a) []) k (runS (ss.take k) (sd0 n))) := Inv.runAt HN.out k hk
      by_cases hlt : k < ss.length
      · have hki : (k : Int) < ss.length := by omega
        have HNX : Hid (runS (ss.take (k + 1)) (sd0 n) = (doS ss[k] (runS (ss.take k) (sd0 n))).2) := runS_next hlt _
        obtain ⟨a, e, hab, hc⟩ := (HR.out.kept HK.out) k hlt
        have HAB : Hid (a.block < w.heap.size) := hab
        subst e
        have HLk := HLE.out _ (List.getElem_mem hlt)
        obtain ⟨y, HYe⟩ : ∃ y : Sp, Hid (y = ss[k]) := ⟨ss[k], (rfl : ss[k] = ss[k])⟩
        rw [← HYe.out] at hc HNX HLk
        have HC : Hid (∀ (r : Nat) v, (stC y).toList[r]? = some v → wr.cell? ((a.add (k * 7)).add r) = some v) := hc
        clear HYe hc hab
        generalize runS (ss.take k) (sd0 n) = S at *
        have DX := two_do _ k b d w wr S S y HK.out.size HT.out HIN.out (by omega) ⟨by omega, by omega, by omega⟩
        obtain ⟨A, HA⟩ : ∃ A, Hid (A = (doS y S).1) := ⟨_, rfl⟩
        obtain ⟨S', HS⟩ : ∃ A, Hid (A = (doS y S).2) := ⟨_, rfl⟩
        rw [← HS.out] at HNX
        rw [← HS.out, ← HA.out] at DX
        obtain ⟨er, ho', rk, rv⟩ := A
        clear HT HLk
        go_wp2_with ((with_reducible refine atLoad 34 ?_); go_must (refine wpList_loadA rfl _ _ rfl _ rfl _ _ HC.out Tryz.underlying34 rfl Tryz.sizeSt ?_))
        go_fit DX
        rintro e w5 ⟨rfl, t5, k5⟩
        have HT5 : Hid (Two w w5 b d S' S) := t5
        have K5 : Hid (Kept Nil w w5) := HK.out.sinceX k5
        have HC5 : Hid (∀ (r : Nat) v, (stC y).toList[r]? = some v → w5.cell? ((a.add (k * 7)).add r) = some v) := fun r v hv => cell_kept k5 (fun _ e => by rw [add_block, add_block] at e; have e : w.heap.size ≤ a.block := e; have := HAB.out; omega) (HC.out r v hv)
        clear DX t5 k5 HC HK
        go_upto_region 14 with ((with_reducible refine atStore 31 ?_); go_must (refine wpList_storeW rfl _ _ _ rfl _ (anC ⟨er, ho', rk, rv⟩) _ _ rfl rfl (blk_new w5 _) rfl Tryz.sizeAn rfl (anC_one _) ?_); intro w6 hb6 hk6 hs6)
        have K6 : Hid (Kept Nil w5 w6) := hk6.oneX rfl
        obtain ⟨B1, HB1⟩ : ∃ B, Hid (B = w5.heap.size) := ⟨_, rfl⟩
        rw [← HB1.out] at hb6 ⊢
        have HA6 : Hid (w6.heap[B1]? = some (.cells (anC ⟨er, ho', rk, rv⟩) 31 (0, 0))) := hb6
        have HC6 : Hid (∀ (r : Nat) v, (stC y).toList[r]? = some v → w6.cell? ((a.add (k * 7)).add r) = some v) := fun r v hv => cell_kept K6.out (fun _ e => e) (HC5.out r v hv)
        have DY := two_doY2 _ k b d w w5 w6 S' S y K5.out.size HT5.out K6.out HIN.out (by omega)
        rw [← HS.out, ← HA.out] at DY
        clear hk6 hs6 hb6 HC5
        go_wp2_with ((with_reducible refine atLoad 34 ?_); go_must (refine wpList_loadA rfl _ _ rfl _ rfl _ _ HC6.out Tryz.underlying34 rfl Tryz.sizeSt ?_))
        go_fit DY
        rintro e w7 ⟨rfl, t7, k7⟩
        have HT7 : Hid (Two w w7 b d S' S') := t7
        have K7 : Hid (Kept Nil w w7) := (K5.out.trans K6.out).sinceX (k7.mono (fun q _ e => e.1))
        have HA7 : Hid (w7.heap[B1]? = some (.cells (anC ⟨er, ho', rk, rv⟩) 31 (0, 0))) := k7.block _ _ HA6.out (fun e => by have := e.2; have := HB1.out; omega)
        clear DY t7 k7 HC6 HT5 K5 K6 HA6
        go_upto_region 15 with ((with_reducible refine atStore 31 ?_); go_must (refine wpList_storeW rfl _ _ _ rfl _ (anC ⟨er, ho', rk, rv⟩) _ _ rfl rfl (blk_new w7 _) rfl Tryz.sizeAn rfl (anC_one _) ?_); intro w8 hb8 hk8 hs8)
        have K78 : Hid (Kept Nil w7 w8) := hk8.oneX rfl
        obtain ⟨B2, HB2⟩ : ∃ B, Hid (B = w7.heap.size) := ⟨_, rfl⟩
        rw [← HB2.out] at hb8 ⊢
        have HD8 : Hid (w8.heap[B2]? = some (.cells (anC ⟨er, ho', rk, rv⟩) 31 (0, 0))) := hb8
        have HA8 : Hid (w8.heap[B1]? = some (.cells (anC ⟨er, ho', rk, rv⟩) 31 (0, 0))) := K78.out.block _ _ HA7.out (fun e => e)
        have HT8 : Hid (Two w w8 b d S' S') := HT7.out.kept K78.out
        have K8 : Hid (Kept Nil w w8) := K7.out.trans K78.out
        have SR := sameR_same rk rv w8
        unfold rsC at SR
        have p2 : w8.cell? ⟨B1, 2, none⟩ = some (.int .i64 rk) := blk_at HA8.out 2 rfl
        have p3 : w8.cell? ⟨B1, 3, none⟩ = some (.string (bs rv)) := blk_at HA8.out 3 rfl
        have p4 : w8.cell? ⟨B1, 4, none⟩ = some (.int .i64 0) := blk_at HA8.out 4 rfl
        have p5 : w8.cell? ⟨B1, 5, none⟩ = some (.slice none 0 0) := blk_at HA8.out 5 rfl
        have q2 : w8.cell? ⟨B2, 2, none⟩ = some (.int .i64 rk) := blk_at HD8.out 2 rfl
        have q3 : w8.cell? ⟨B2, 3, none⟩ = some (.string (bs rv)) := blk_at HD8.out 3 rfl
        have q4 : w8.cell? ⟨B2, 4, none⟩ = some (.int .i64 0) := blk_at HD8.out 4 rfl
        have q5 : w8.cell? ⟨B2, 5, none⟩ = some (.slice none 0 0) := blk_at HD8.out 5 rfl
        clear hb8 hk8 hs8 HA7 HT7 K7 K78 HB1 HB2
        go_wp2_with fail
        go_fit SR
        rintro e w9 ⟨rfl, k9⟩
        have HT9 : Hid (Two w w9 b d S' S') := HT8.out.kept k9
        have K9 : Hid (Kept Nil w w9) := K8.out.trans k9
        have s0 : w9.cell? ⟨B1, 0, none⟩ = some (.int .i64 er) := cell_kept k9 (fun _ e => e) (blk_at HA8.out 0 rfl)
        have s1 : w9.cell? ⟨B1, 1, none⟩ = some (.int .i64 ho') := cell_kept k9 (fun _ e => e) (blk_at HA8.out 1 rfl)
        have u0 : w9.cell? ⟨B2, 0, none⟩ = some (.int .i64 er) := cell_kept k9 (fun _ e => e) (blk_at HD8.out 0 rfl)
        have u1 : w9.cell? ⟨B2, 1, none⟩ = some (.int .i64 ho') := cell_kept k9 (fun _ e => e) (blk_at HD8.out 1 rfl)
        have z0 : (er != er) = false := by simp
        have z1 : (ho' != ho') = false := by simp
        clear SR p2 p3 p4 p5 q2 q3 q4 q5 k9 HA8 HD8 HT8 K8
        go_wp2
        go_roundw
        case rel => exact ⟨k + 1, by omega, by go_num, by rw [HNX.out]; exact HT9.out, K9.out⟩
        case measure => simp [intOf]; omega
      · obtain rfl : k = ss.length := by omega
        have hirr : ¬ (ss.length : Int) < ss.length := by omega
        generalize runS (ss.take ss.length) (sd0 n) = S at *
        generalize (ss.take ss.length).foldl (fun a s => s.ky :: a) [] = KL at *
        have SA := two_all KL ss.length b d w wr S HT.out HIN.out (by omega)
        go_wp2_with fail
        go_fit SA
        rintro e w5 ⟨rfl, k5⟩
        have HT5 : Hid (Two w w5 b d S S) := HT.out.kept k5
        have K5 : Hid (Kept Nil w w5) := HK.out.trans k5
        have hm := min_rem t
        obtain ⟨m, HM⟩ : ∃ m, Hid (m = (min (t.tmod 5) 100).toNat) := ⟨_, rfl⟩
        rw [← HM.out] at hm
        have DX := two_heal KL ss.length m b d (t.tmod 5) w w5 S S K5.out.size HT5.out HIN.out HM.out (by omega)
        clear SA k5 HT HK
        go_wp2_with fail
        go_fit DX
        rintro e w6 ⟨rfl, t6, k6⟩
        have HT6 : Hid (Two w w6 b d (healS m S) S) := t6
        have K6 : Hid (Kept Nil w w6) := K5.out.sinceX k6
        have DY := two_healY KL ss.length m b d (t.tmod 5) w w6 (healS m S) S K6.out.size HT6.out HIN.out HM.out (by omega)
        clear DX t6 k6 HT5 K5
        go_wp2_with fail
        go_fit DY
        rintro e w7 ⟨rfl, t7, k7⟩
        have HT7 : Hid (Two w w7 b d (healS m S) (healS m S)) := t7
        have K7 : Hid (Kept Nil w w7) := K6.out.sinceX k7
        have SB := two_all KL (ss.length + 2009 * m) b d w w7 (healS m S) HT7.out (HIN.out.heal m) (by omega)
        clear DY t7 k7 HT6 K6
        go_wp2_with fail
        go_fit SB
        rintro e w8 ⟨rfl, k8⟩
        go_wp2
        go_ret
        exact ⟨rfl, K7.out.trans k8⟩
end Go.Proofs.YtpfgnhockfofhaaGreat
