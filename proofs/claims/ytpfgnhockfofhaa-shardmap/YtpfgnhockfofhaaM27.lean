/-
  Joined: WShQ, WShN.
-/
import Derived.Test.YtpfgnhockfofhaaM25
/-
  Shards: New.
-/
namespace Go.Proofs.Ytpfgnhockfofhaa
open Go.RowKit

set_option maxRecDepth 100000 in
set_option maxHeartbeats 1000000 in
theorem newHost_any (id : Int) (w : World) (hn : isNd id = true) :
    Calls Try.prog 33 #[.int .i64 id] w fun e w' => ∃ b, e = .returned (.tuple #[.pointer (some ⟨b, 0, none⟩), .int .i64 0]) ∧ HoM (fun g => w.heap.size ≤ g) w' b id hd0 ∧ Kept Nil w w' := by
  have NR := newR_any id w
  go_enter Try.func33, Try.ntmps33
  go_wp2_with fail
  go_fit NR
  rintro e w1 hr
  have hr2 : e = .returned (.tuple #[.pointer (some ⟨w.heap.size, 0, none⟩), .int .i64 0]) ∧ Rl (fun _ => False) w1 w.heap.size id (fun _ => oh0) (fun _ => none) (fun _ => 0) ∧ Kept Nil w w1 := by
    rcases hr with ⟨h, _⟩ | ⟨_, h1, h2, h3⟩
    · rw [hn] at h; cases h
    · exact ⟨h1, h2, h3⟩
  clear hr NR
  obtain ⟨rfl, r1, k1⟩ := hr2
  have DN := new_any 1 w1
  have HR1 : Hid (Rl (fun _ => False) w1 w.heap.size id (fun _ => oh0) (fun _ => none) (fun _ => 0)) := r1
  have HK1 : Hid (Kept Nil w w1) := k1
  clear r1 k1
  go_wp2_with fail
  go_fit DN
  rintro e w2 ⟨rfl, o2, k2⟩
  have HO2 : Hid (OwnB w1.heap.size w2 (some ⟨w1.heap.size, 0, none⟩) 1 [⟨[], 1⟩]) := o2
  have HK2 : Hid (Kept Nil w w2) := HK1.out.trans k2
  have HR2 : Hid (Rl (fun _ => False) w2 w.heap.size id (fun _ => oh0) (fun _ => none) (fun _ => 0)) := HR1.out.kept k2
  clear DN o2 k2
  go_wp2
  go_ret2
  have ka : Kept Nil w2 (w2.alloc (.cells #[.pointer (some ⟨w.heap.size, 0, none⟩), .int .i64 id, .slice none 0 0, .slice (some ⟨w1.heap.size, 0, none⟩) 1 1] 114)) := (Kept.refl _ _).alloc _
  refine ⟨w2.heap.size, rfl, ⟨w.heap.size, fun _ => none, fun _ => 0, none, 0, w1.heap.size, 1, ⟨blk_new w2 _, HK2.out.size, Nat.le_refl _, (HR2.out.kept ka).up (fun g hg => hg.elim), World.ownsRow_nil _ _ _ _, fun g hg => by simp [Value.ownBlock] at hg, (HO2.out.kept ka).mono (Nat.zero_le _), HK1.out.size⟩⟩, HK2.out.trans ka⟩

/-- Shards on their way to be. -/
structure NwX (Gs : Nat → Nat → Prop) (w0 w : World) (b : Nat) (ao : Option Addr) (ch : Nat) (hs : Nat → Nat) (n : Nat) : Prop where
  blk : w.heap[b]? = some (.cells #[.slice ao n ch, .slice none 0 0] 98 (0, 0))
  gb : Gs 10 b
  row : w.ownsRow 0 99 1 (.slice ao n ch) n (hsL hs n)
  gh : ∀ g, (Value.slice ao n ch).ownBlock = some g → Gs 10 g
  ho : ∀ i, i < n → HoM (Gs i) w (hs i) (i + 1 : Nat) hd0
  dis : ∀ i j g, Gs i g → Gs j g → i = j
  lt : ∀ i g, Gs i g → w0.heap.size ≤ g ∧ g < w.heap.size
  kw : Kept Nil w0 w
theorem Try.infoHp : (Try.prog.info? 99).map (fun i => (i.zero, i.size, i.bytes)) = some (some (.pointer none), 1, 8) := by kernel_rfl
theorem hsL_next (hs : Nat → Nat) (n b : Nat) : hsL (upd hs n b) (n + 1) = hsL hs n ++ [.pointer (some ⟨b, 0, none⟩)] := by
  unfold hsL
  rw [List.range_succ, List.map_append]
  congr 1
  · refine List.map_congr_left (fun i hi => ?_)
    rw [upd_ne _ _ (by have := List.mem_range.1 hi; omega)]
  · simp [upd_self]
/-- A new host is there, and its place in the row. -/
theorem NwX.next {Gs : Nat → Nat → Prop} {w0 w w1 w2 : World} {b b1 ch n : Nat} {ao a2 : Option Addr} {c2 : Nat} {hs : Nat → Nat} (x : NwX Gs w0 w b ao ch hs n) (hn : n ≤ 8) (y : HoM (fun g => w.heap.size ≤ g) w1 b1 (n + 1 : Nat) hd0) (k : Kept Nil w w1) {o : Obj} (r : w2.ownsRow 0 99 1 (.slice a2 (n + 1) c2) (n + 1) (hsL hs n ++ [.pointer (some ⟨b1, 0, none⟩)])) (g : (w1.alloc o).grownBy w2 (Value.slice ao n ch).ownBlock) (t : ∀ g, (Value.slice a2 (n + 1) c2).ownBlock = some g → (Value.slice ao n ch).ownBlock = some g ∨ w1.heap.size ≤ g) :
    ∃ Gs', NwX Gs' w0 (w2.setCell ⟨b, 0, none⟩ (.slice a2 (n + 1) c2)) b a2 c2 (upd hs n b1) (n + 1) := by
  have hos : ∀ q, (Value.slice ao n ch).ownBlock = some q → ∃ cs, w.heap[q]? = some (.cells cs 99 (0, 0)) := fun q hq => by
    rcases x.row.2 with ⟨e, _⟩ | ⟨g', cap, cur, e, _, h2, _⟩
    · rw [e] at hq; simp [Value.ownBlock] at hq
    · rw [e] at hq
      have e2 : g' = q := by simpa [Value.ownBlock] using hq
      subst e2
      exact ⟨_, h2⟩
  have ka : Kept Nil w1 (w1.alloc o) := (Kept.refl _ _).alloc _
  have k1 : Kept (fun q (_ : Obj) => (Value.slice ao n ch).ownBlock = some q) w w2 := ((k.trans ka).mono (fun _ _ e => e.elim)).grownT g (fun q hq _ _ => hq)
  have hb2 : w2.heap[b]? = some (.cells #[.slice ao n ch, .slice none 0 0] 98 (0, 0)) := k1.block _ _ x.blk (fun e => by
    obtain ⟨cs, h⟩ := hos b e
    rw [x.blk] at h
    cases h)
  have hbW : b < w.heap.size := lt_of_block x.blk
  have k12 : Kept (fun q (_ : Obj) => (Value.slice ao n ch).ownBlock = some q) w1 w2 := (ka.mono (fun _ _ e => e.elim)).grownT g (fun q hq _ _ => hq)
  obtain ⟨V, hV⟩ : ∃ V, V = w2.setCell ⟨b, 0, none⟩ (.slice a2 (n + 1) c2) := ⟨_, rfl⟩
  have kb : Kept (One b) w2 V := by rw [hV]; exact (Kept.refl _ _).setT (fun _ _ => rfl) _ _
  have k2V : Kept (fun q (_ : Obj) => (Value.slice ao n ch).ownBlock = some q ∨ q = b) w V := (k1.mono (fun _ _ e => .inl e)).trans (kb.mono (fun _ _ e => .inr e))
  have k1V : Kept (fun q (_ : Obj) => (Value.slice ao n ch).ownBlock = some q ∨ q = b) w1 V := (k12.mono (fun _ _ e => .inl e)).trans (kb.mono (fun _ _ e => .inr e))
  have hsz : w1.heap.size ≤ V.heap.size := k1V.size
  have h10 : ∀ q, ((Value.slice ao n ch).ownBlock = some q ∨ q = b) → Gs 10 q := fun q e => by
    rcases e with e | rfl
    · exact x.gh q e
    · exact x.gb
  refine ⟨fun j q => if j = n then w.heap.size ≤ q ∧ q < w1.heap.size else if j = 10 then (Gs 10 q ∨ w1.heap.size ≤ q) ∧ q < V.heap.size else Gs j q ∧ j < n, ?_⟩
  rw [← hV]
  refine ⟨by rw [hV]; exact blk_set hb2 0 _, ?_, ?_, fun q hq => ?_, fun j hj => ?_, fun i j q h1 h2 => ?_, fun i q h1 => ?_, ⟨(k2V.os.trans x.kw.os), (k2V.tape.trans x.kw.tape), (k2V.output.trans x.kw.output), Nat.le_trans x.kw.size k2V.size, fun q o' ho _ => k2V.block q o' (x.kw.block q o' ho (fun e => e)) (fun e => by have h1 := (x.lt 10 q (h10 q e)).1; have := lt_of_block ho; omega)⟩⟩
  · show if (10 : Nat) = n then _ else _
    rw [if_neg (by omega), if_pos rfl]
    exact ⟨.inl x.gb, Nat.lt_of_lt_of_le hbW (Nat.le_trans k.size hsz)⟩
  · rw [hsL_next, hV]
    exact own_setTy hb2 r (by decide)
  · show if (10 : Nat) = n then _ else _
    rw [if_neg (by omega), if_pos rfl]
    have hl := (World.ownsRow.lt r q hq).2
    refine ⟨?_, Nat.lt_of_lt_of_le hl kb.size⟩
    rcases t q hq with e | e
    · exact .inl (x.gh q e)
    · exact .inr e
  · show HoM (fun q => if j = n then _ else _) _ (upd hs n b1 j) _ _
    by_cases e : j = n
    · subst e
      rw [upd_self]
      have y2 : HoM (fun q => w.heap.size ≤ q ∧ q < w1.heap.size) w1 b1 (j + 1 : Nat) hd0 := y.lt
      refine (y2.keptX k1V (fun q o' hq e => ?_)).up (fun q hq => by rw [if_pos rfl]; exact hq)
      have := (x.lt 10 q (h10 q e)).2
      omega
    · rw [upd_ne _ _ e]
      have hj2 : j < n := by omega
      refine ((x.ho j hj2).keptX k2V (fun q o' hq e2 => ?_)).up (fun q hq => by rw [if_neg e, if_neg (by omega)]; exact ⟨hq, hj2⟩)
      have := x.dis j 10 q hq (h10 q e2)
      omega
  · split at h1
    · rename_i e1
      split at h2
      · rename_i e2; rw [e1, e2]
      · split at h2
        · rcases h2.1 with h | h
          · have := (x.lt _ _ h).2; omega
          · omega
        · have := (x.lt _ _ h2.1).2; omega
    · split at h1
      · rename_i e1
        split at h2
        · rcases h1.1 with h | h
          · have := (x.lt _ _ h).2; omega
          · omega
        · split at h2
          · rename_i e2; rw [e1, e2]
          · rcases h1.1 with h | h
            · rw [e1]; exact x.dis _ _ _ h h2.1
            · have := (x.lt _ _ h2.1).2; have := k.size; omega
      · split at h2
        · have := (x.lt _ _ h1.1).2; omega
        · split at h2
          · rename_i e2
            rcases h2.1 with h | h
            · rw [e2]; exact x.dis _ _ _ h1.1 h
            · have := (x.lt _ _ h1.1).2; have := k.size; omega
          · exact x.dis _ _ _ h1.1 h2.1
  · split at h1
    · exact ⟨Nat.le_trans x.kw.size h1.1, Nat.lt_of_lt_of_le h1.2 hsz⟩
    · split at h1
      · refine ⟨?_, h1.2⟩
        rcases h1.1 with h | h
        · exact (x.lt _ _ h).1
        · exact Nat.le_trans (Nat.le_trans x.kw.size k.size) h
      · have h3 := x.lt _ _ h1.1
        exact ⟨h3.1, Nat.lt_of_lt_of_le h3.2 (Nat.le_trans k.size hsz)⟩
/-- They are there. -/
theorem NwX.done {Gs : Nat → Nat → Prop} {w0 w : World} {b ch n : Nat} {ao : Option Addr} {hs : Nat → Nat} (x : NwX Gs w0 w b ao ch hs n) (h1 : 1 ≤ n) (h9 : n ≤ 9) : ∃ hb, ShX Gs w b hb ch hs none 0 (sd0 n) := by
  obtain ⟨hb, rfl⟩ : ∃ hb, ao = some ⟨hb, 0, none⟩ := by
    rcases x.row.2 with ⟨e, h⟩ | ⟨g', cap, cur, e, _⟩
    · omega
    · simp only [Value.slice.injEq] at e
      exact ⟨g', e.1⟩
  exact ⟨hb, ⟨x.blk, x.gb, x.gh hb rfl, x.row, RowAt.nil _ _ _, fun g hg => by simp [Value.ownBlock] at hg, x.ho, x.dis, fun i g hg => (x.lt i g hg).2, h9⟩⟩
theorem oneHp_src (w : World) (b : Nat) : Src Try.prog 1 96 (.slice (some ⟨w.heap.size, 0, .none⟩) 1 1) 1 [.pointer (some ⟨b, 0, .none⟩)] (w.alloc (.cells #[.pointer (some ⟨b, 0, .none⟩)] 99)) := by
  refine Src.ofSlice _ Try.underlying96 ⟨w.heap.size, 0, .none⟩ 1 1 _ rfl ?_ (fun u hu => by simp at hu; rcases hu with rfl; rfl)
  intro j u hj
  rw [addr_addE, blk_cell (blk_new w (.cells #[.pointer (some ⟨b, 0, .none⟩)] 99)), ← hj]
  simp
theorem NwX.start (w : World) : NwX (fun j g => j = 10 ∧ g = w.heap.size) w (w.alloc (.cells #[.slice none 0 0, .slice none 0 0] 98)) w.heap.size none 0 (fun _ => 0) 0 :=
  ⟨blk_new _ _, ⟨rfl, rfl⟩, World.ownsRow_nil _ _ _ _, fun g hg => by simp [Value.ownBlock] at hg, fun i hi => by omega, fun i j g h1 h2 => h1.1.trans h2.1.symm, fun i g h => ⟨by rw [h.2]; exact Nat.le_refl _, by rw [h.2]; simp⟩, (Kept.refl _ _).alloc _⟩
set_option maxRecDepth 100000 in
set_option maxHeartbeats 4000000 in
theorem newS_yes (n : Nat) (w : World) (h1 : 1 ≤ n) (h9 : n ≤ 9) :
    Calls Try.prog 23 #[.int .i64 n] w fun e w' => ∃ b, e = .returned (.tuple #[.pointer (some ⟨b, 0, none⟩), .int .i64 0]) ∧ (∃ Gs hb ch hs, ShX Gs w' b hb ch hs none 0 (sd0 n) ∧ ∀ i g, Gs i g → w.heap.size ≤ g) ∧ Kept Nil w w' := by
  obtain ⟨i0, hi0, hz0, hz1, hz2⟩ := info_parts Try.infoHp
  have IN := isNode_any n w
  rw [nd_of h9 ⟨by omega, Int.le_refl _⟩] at IN
  obtain ⟨W, hW⟩ : ∃ W, W = w.alloc (.cells #[.slice none 0 0, .slice none 0 0] 98) := ⟨_, rfl⟩
  obtain ⟨b, HB⟩ : ∃ b : Nat, Hid (b = w.heap.size) := ⟨_, rfl⟩
  have HNW : Hid (NwX (fun j g => j = 10 ∧ g = w.heap.size) w W b none 0 (fun _ => 0) 0) := by rw [hW, HB.out]; exact NwX.start w
  have hni : (n : Int) ≤ 9 := by omega
  go_enter Try.func23, Try.ntmps23
  go_wp2_with fail
  go_fit IN
  rintro e w1 ⟨rfl, rfl⟩
  clear IN
  go_upto_region 4 with fail
  rw [← hW, ← HB.out]
  clear hW
  go_wp2
  go_loopw [5] (fun u wr => ∃ k m ch : Nat, ∃ ao hs Gs, k ≤ n ∧ Hid (m = k + 1) ∧ u = .int .i64 m ∧ Hid (NwX Gs w1 wr b ao ch hs k)) (fun u _ => n + 1 - (intOf u).toNat)
  case atStart => exact ⟨0, 1, 0, none, _, _, Nat.zero_le _, rfl, rfl, HNW.out⟩
  case round =>
    obtain ⟨k, m, ch, ao, hs, Gs, hk, HM, rfl, HX⟩ := hrel
    by_cases hlt : k < n
    · have hmi : (m : Int) ≤ (n : Int) := by have := HM.out; omega
      have NH := newHost_any (m : Int) wr (nd_of h9 ⟨by have := HM.out; omega, hmi⟩)
      go_wp2_with fail
      go_fit NH
      rintro e w2 ⟨b1, rfl, y2, k2⟩
      have HY2 : Hid (HoM (fun g => wr.heap.size ≤ g) w2 b1 (k + 1 : Nat) hd0) := by rw [← HM.out]; exact y2
      have HK2 : Hid (Kept Nil wr w2) := k2
      have HB2 : Hid (w2.heap[b]? = some (.cells #[.slice ao k ch, .slice none 0 0] 98 (0, 0))) := k2.block _ _ HX.out.blk (fun e => e)
      have c0 : w2.cell? ⟨b, 0, none⟩ = some (.slice ao k ch) := blk_at HB2.out 0 rfl
      have hb2 : b < w2.heap.size := lt_of_block HB2.out
      have HR2 : Hid (w2.ownsRow 0 99 1 (.slice ao k ch) k (hsL hs k)) := own_kept HX.out.row k2 (fun _ _ _ e => e)
      have HNE : Hid ((Value.slice ao k ch).ownBlock ≠ some b) := fun e => by
        rcases HR2.out.2 with ⟨e1, _⟩ | ⟨g', cap, cur, e1, _, h2, _⟩
        · rw [e1] at e; simp [Value.ownBlock] at e
        · rw [e1] at e
          have e2 : g' = b := by simpa [Value.ownBlock] using e
          subst e2
          have := HB2.out
          rw [h2] at this
          cases this
      have HLL : Hid (k + 1 ≤ maxLen ∧ (k + 1) * 8 ≤ 140737488355328) := by constructor <;> (try unfold maxLen) <;> omega
      have SR := oneHp_src w2 b1
      clear NH y2 k2
      go_wp2_with (at_builtin; go_must (refine wpList_append_at _ rfl _ _ 96 96 rfl 0 99 i0 (.pointer none) 1 8 Try.underlying96 hi0 hz0 hz1 hz2 rfl (.slice ao k ch) k (hsL hs k) rfl (World.ownsRow.alloc HR2.out _) (.slice (some ⟨w2.heap.size, 0, none⟩) 1 1) 1 [.pointer (some ⟨b1, 0, none⟩)] rfl SR HLL.out.1 HLL.out.2 (Nat.zero_le _) ?_); intro a3 c3 w3 r3 g3 t3; have HN3 : Hid (∃ Gs', NwX Gs' w1 (w3.setCell ⟨b, 0, none⟩ (.slice a3 (k + 1) c3)) b a3 c3 (upd hs k b1) (k + 1)) := HX.out.next (by omega) HY2.out HK2.out r3 g3 (fun g hg => (t3 g hg).imp id (fun h => by simp at h; omega)); have s3 : w3.heap[b]? = some (.cells #[.slice ao k ch, .slice none 0 0] 98 (0, 0)) := (by rw [g3.block b (by simp; omega) (fun e => HNE.out e.symm)]; exact blk_past HB2.out _); have e3 : w3.cell? ⟨b, 0, none⟩ = some (.slice ao k ch) := blk_at s3 0 rfl; have f3 : w3.frozen? ⟨b, 0, none⟩ = false := blk_free s3 _; clear r3 g3 t3 s3)
      obtain ⟨Gs', HN4⟩ := HN3.out
      go_roundw
      case rel => exact ⟨k + 1, m + 1, c3, a3, _, Gs', by omega, (by show m + 1 = k + 1 + 1; rw [HM.out]), by congr 1, HN4⟩
      case measure => have := HM.out; simp [intOf]; omega
    · obtain rfl : k = n := by omega
      have hmi : ¬ (m : Int) ≤ (k : Int) := by have := HM.out; omega
      go_wp2
      go_ret2
      obtain ⟨hb, y⟩ := HX.out.done h1 h9
      exact ⟨b, rfl, ⟨Gs, ⟨hb, ch, hs, y⟩, fun i g hg => (HX.out.lt i g hg).1⟩, HX.out.kw⟩
end Go.Proofs.Ytpfgnhockfofhaa

/-
  Shards: Heal.
-/
namespace Go.Proofs.Ytpfgnhockfofhaa
open Go.RowKit

theorem ShPost.refl {Gs : Nat → Nat → Prop} {w : World} {b hb ch cw : Nat} {hs : Nat → Nat} {aw : Option Addr} {S : Sd} (x : ShX Gs w b hb ch hs aw cw S) : ShPost Gs w b hb ch hs S w := ShPost.same x (Kept.refl _ _)
set_option maxRecDepth 100000 in
set_option maxHeartbeats 8000000 in
theorem heal_any (K : List (List UInt8)) (M m : Nat) (t : Int) (Gs : Nat → Nat → Prop) (b hb ch cw : Nat) (hs : Nat → Nat) (aw : Option Addr) (S : Sd) (w : World) (x : ShX Gs w b hb ch hs aw cw S) (inv : Inv K M S) (hm : m = (min t 100).toNat) (hM : M + 2009 * m ≤ 1900000) :
    Calls Try.prog 29 #[.pointer (some ⟨b, 0, none⟩), .int .i64 t] w fun e w' => e = .returned (.tuple #[]) ∧ ShPost Gs w b hb ch hs (healS m S) w' := by
  obtain ⟨q, HQ⟩ : ∃ q : Int, Hid (q = min t 100) := ⟨_, rfl⟩
  have hmq : m = q.toNat := by rw [HQ.out]; exact hm
  have hm100 : m ≤ 100 := by have := HQ.out; omega
  have HMQ : Hid (m = q.toNat) := hmq
  clear hmq
  have HIn : Hid (∀ i, Inv K (M + 2009 * i) (healS i S)) := fun i => inv.heal i
  have hn9 := inv.n1.2
  have HX : Hid (ShX Gs w b hb ch hs aw cw S) := x
  have HPS : Hid (ShPost Gs w b hb ch hs (healS 0 S) w) := ShPost.refl x
  obtain ⟨n, HN⟩ : ∃ n, Hid (n = S.n) := ⟨_, rfl⟩
  rw [← HN.out] at hn9
  have HNi : Hid (∀ i, (healS i S).n = n) := fun i => by rw [heal_n, HN.out]
  clear x inv hm
  go_enter Try.func29, Try.ntmps29
  go_wp2
  go_loopw [8] (fun u wr => ∃ i : Nat, i ≤ m ∧ u = .int .i64 i ∧ Hid (ShPost Gs w b hb ch hs (healS i S) wr)) (fun u _ => m - (intOf u).toNat)
  case atStart => exact ⟨0, Nat.zero_le _, rfl, HPS.out⟩
  case round =>
    obtain ⟨i, hi, rfl, HP⟩ := hrel
    by_cases hlt : i < m
    · have hlq : (i : Int) < q := by have := HMQ.out; omega
      rw [HQ.out] at hlq
      rename World => wo
      obtain ⟨⟨G1, aw1, cw1, x1, h1⟩, k1⟩ := HP.out
      have HJ1 : Hid (∀ S' w', ShPost G1 wo b hb ch hs S' w' → ShPost Gs w b hb ch hs S' w') := fun _ _ y => ShPost.trans h1 k1 y
      have HX1 : Hid (ShX G1 wo b hb ch hs aw1 cw1 (healS i S)) := x1
      have HI1 : Hid (Inv K (M + 2009 * i) (healS i S)) := HIn.out i
      have c0 : wo.cell? ⟨b, 0, none⟩ = some (.slice (some ⟨hb, 0, none⟩) n ch) := by have := x1.blk; rw [HNi.out] at this; exact blk_at this 0 rfl
      obtain ⟨S1, HS1⟩ : ∃ S1, Hid (S1 = healS i S) := ⟨_, rfl⟩
      have HN1 : Hid (S1.n = n) := by rw [HS1.out]; exact HNi.out i
      rw [← HS1.out] at HX1 HI1
      have hbl : b < wo.heap.size := lt_of_block x1.blk
      clear x1 h1 k1
      go_wp2
      go_loopw [15] (fun v wr => ∃ j : Nat, j ≤ n ∧ v = .int .i64 j ∧ Hid (ShPost G1 wo b hb ch hs (sendsS j S1) wr)) (fun v _ => n - (intOf v).toNat)
      case atStart => exact ⟨0, Nat.zero_le _, rfl, ShPost.refl HX1.out⟩
      case round =>
        obtain ⟨j, hj, rfl, HPj⟩ := hrel
        by_cases hjn : j < n
        · have hji : (j : Int) < (n : Int) := by omega
          obtain ⟨⟨G2, aw2, cw2, x2, h2⟩, k2⟩ := HPj.out
          have at2 := x2.at (i := j) (by rw [sends_n, HN1.out]; exact hjn)
          have SE := send_any K (M + 2009 * i + j) j G2 b hb ch cw2 hs aw2 (sendsS j S1) wr x2 (HI1.out.sends j (by rw [HN1.out]; exact hj)) (by rw [sends_n, HN1.out]; exact hjn) (by omega)
          have h2l : hb < wr.heap.size := World.block_lt_of_cell? wr _ at2
          go_wp2_with fail
          go_fit SE
          rintro e w3 ⟨rfl, y3⟩
          have HP3 : Hid (ShPost G1 wo b hb ch hs (sendsS (j + 1) S1) w3) := ShPost.trans h2 k2 y3
          clear SE y3 x2 h2 k2 at2
          go_wp2
          go_roundw
          case rel => exact ⟨j + 1, by omega, by congr 1, HP3.out⟩
          case measure => simp [intOf]; omega
        · obtain rfl : j = n := by omega
          rename World => wp
          obtain ⟨⟨G3, aw3, cw3, x3, h3⟩, k3⟩ := HPj.out
          obtain ⟨S2, HS2⟩ : ∃ S2, Hid (S2 = sendsS j S1) := ⟨_, rfl⟩
          have HI2 : Hid (Inv K (M + 2009 * i + j) S2) := by rw [HS2.out]; exact HI1.out.sends j (by rw [HN1.out]; exact Nat.le_refl _)
          rw [← HS2.out] at x3
          have HX3 : Hid (ShX G3 wp b hb ch hs aw3 cw3 S2) := x3
          have HJ3 : Hid (∀ S' w', ShPost G3 wp b hb ch hs S' w' → ShPost Gs w b hb ch hs S' w') := fun _ _ y => HJ1.out _ _ (ShPost.trans h3 k3 y)
          clear x3 h3 k3
          go_wp2
          go_loopw [23] (fun v wr => ∃ c : Nat, c ≤ 2000 ∧ v = .int .i64 c ∧ Hid (ShPost G3 wp b hb ch hs (carriesS c S2) wr)) (fun v _ => 2000 - (intOf v).toNat)
          case atStart => exact ⟨0, Nat.zero_le _, rfl, ShPost.refl HX3.out⟩
          case round =>
            obtain ⟨c, hc, rfl, HPc⟩ := hrel
            by_cases hcn : c < 2000
            · have hci : (c : Int) < 2000 := by omega
              obtain ⟨⟨G4, aw4, cw4, x4, h4⟩, k4⟩ := HPc.out
              have CA := carry_any K (M + 2009 * i + j + c) 6 0 G4 b hb ch cw4 hs aw4 (carriesS c S2) wr x4 (HI2.out.carries c) (by omega)
              go_wp2_with fail
              go_fit CA
              rintro e w5 ⟨rfl, y5⟩
              have HP5 : Hid (ShPost G3 wp b hb ch hs (carriesS (c + 1) S2) w5) := ShPost.trans h4 k4 y5
              clear CA y5 x4 h4 k4
              go_wp2
              go_roundw
              case rel => exact ⟨c + 1, by omega, by congr 1, HP5.out⟩
              case measure => simp [intOf]; omega
            · obtain rfl : c = 2000 := by omega
              have HPf : Hid (ShPost Gs w b hb ch hs (healS (i + 1) S) wr) := by
                have h9 := HJ3.out _ _ HPc.out
                show ShPost Gs w b hb ch hs (healS (i + 1) S) wr
                rw [heal_next, ← HN.out, ← HS1.out, ← HS2.out]
                exact h9
              go_wp2
              go_roundw
              case rel => exact ⟨i + 1, by omega, by congr 1, HPf.out⟩
              case measure => simp [intOf]; omega
    · obtain rfl : i = m := by omega
      have hlq : ¬ (i : Int) < q := by have := HMQ.out; omega
      rw [HQ.out] at hlq
      go_wp2
      go_end0
      exact ⟨rfl, HP.out⟩
end Go.Proofs.Ytpfgnhockfofhaa
