/-
  Joined: WFrame2, WCatch, WFrame3, WGen, WEnt1, WTab2, WTorn1.
-/
import Derived.Test.YtpfgnhockfofhaaM01
import Derived.Recover
import Derived.Defers
import Derived.BigQuiet
import Derived.Deep.QuietTactic
import Derived.RegionCalls
import Derived.Deep.RegionWith
import Derived.Test.YtpfgnhockfofhaaM00
/-
  The program's reader of a frame, Unframe; and the document's: the same plain reading.
-/
namespace Go.Proofs.Ytpfgnhockfofhaa
open Go.RowKit

/-- What so many bytes say, the lowest first. -/
def valN : Nat → List UInt8 → Nat
  | 0, _ => 0
  | k + 1, l => valN k l + (l.getD k 0).toNat * 2 ^ (8 * k)
theorem valN_lt (l : List UInt8) : ∀ k, valN k l < 2 ^ (8 * k)
  | 0 => by simp [valN]
  | k + 1 => by
    have ih := valN_lt l k
    have hb := (l.getD k 0).toNat_lt
    have e : 2 ^ (8 * (k + 1)) = 256 * 2 ^ (8 * k) := by rw [Nat.mul_add, Nat.pow_add]; omega
    have : ((l.getD k 0).toNat + 1) * 2 ^ (8 * k) ≤ 256 * 2 ^ (8 * k) := Nat.mul_le_mul_right _ (by omega)
    rw [Nat.add_mul] at this
    show valN k l + _ < _
    omega

theorem cell_lt {w : World} {a : Addr} {v : Value} (h : w.cell? a = some v) : a.block < w.heap.size := by
  cases hb : w.heap[a.block]? with
  | none => simp [World.cell?, hb] at h
  | some o => exact lt_of_block hb
theorem Left.alloc {p : Addr} {w : World} {l : List UInt8} (h : Left p w l) (o : Obj) : Left p (w.alloc o) l :=
  have e := Below.heap_alloc w o p.block (cell_lt h.cell)
  ⟨(World.cell?_of_block e).trans h.cell, (World.frozen?_of_block e).trans h.free⟩
theorem Left.other {p : Addr} {w : World} {l : List UInt8} (h : Left p w l) {a : Addr} (ha : p.block ≠ a.block) (u : Value) : Left p (w.setCell a u) l :=
  have e := Below.heap_setCell w a u p.block ha
  ⟨(World.cell?_of_block e).trans h.cell, (World.frozen?_of_block e).trans h.free⟩
theorem Left.drew {p : Addr} {w : World} {l : List UInt8} (h : Left p w l) : Left p w.drew l := ⟨h.cell, h.free⟩

theorem or8 (k x : Nat) (d : UInt8) (hk : k < 4) (hx : x < 2 ^ (8 * k)) : bits BinOp.or IntKind.u32 (x : Int) ((d.toNat : Int) * 2 ^ (8 * k) % 4294967296) = ((x + d.toNat * 2 ^ (8 * k) : Nat) : Int) := by
  have hd := d.toNat_lt
  have hp : 2 ^ (8 * k) ≤ 2 ^ 24 := Nat.pow_le_pow_right (by omega) (by omega)
  have hm : d.toNat * 2 ^ (8 * k) ≤ 255 * 2 ^ 24 := Nat.mul_le_mul (by omega) hp
  have e : ((d.toNat : Int) * 2 ^ (8 * k) % 4294967296) = ((d.toNat * 2 ^ (8 * k) : Nat) : Int) := by
    have : ((d.toNat : Int) * 2 ^ (8 * k)) = ((d.toNat * 2 ^ (8 * k) : Nat) : Int) := by push_cast; rfl
    rw [this]; omega
  rw [e, u32_or_nat _ _ (by omega) (by omega), Nat.or_comm, ← Nat.shiftLeft_eq, ← Nat.shiftLeft_add_eq_or_of_lt hx, Nat.add_comm]

def rdSum (l : List UInt8) : Except Int (Nat × List UInt8) := if 4 ≤ l.length then .ok (valN 4 (l.take 4), l.drop 4) else .error 3
def U32V : Nat → World → Value → Prop := fun n _ v => v = .int .u32 n

theorem sum_cell (w : World) (l : List UInt8) (cap k : Nat) (m : Nat × Nat) (hk : k < l.length) :
    (w.alloc (.cells (bytesRow (bs l) cap) 5 m)).drew.cell? ⟨w.heap.size, k, none⟩ = some (.int .u8 (l.getD k 0).toNat) := by
  have hb : (w.alloc (.cells (bytesRow (bs l) cap) 5 m)).drew.heap[w.heap.size]? = some (.cells (bytesRow (bs l) cap) 5 m) := blk_new w _
  simp only [World.cell?, hb]
  simp [bytesRow, bs, hk, Array.getElem?_append, List.getD_eq_getElem?_getD]

set_option maxRecDepth 100000 in
set_option maxHeartbeats 1000000 in
theorem rdSum_any (p : Addr) (l : List UInt8) (w : World) (hl : Left p w l) :
    Calls Try.prog 100 #[.pointer (some p)] w (RdPost p w (rdSum l) U32V) := by
  by_cases h4 : 4 ≤ l.length
  · have hcv := fun w s => run_bytes_of_string (P := Try.prog) w 9 140 5 s Try.underlying9 Try.underlying140 Try.underlying5
    have hsz : (bs (l.take 4)).size = 4 := by rw [bs_size]; simp; omega
    go_enter Try.func100, Try.ntmps100
    go_wp2_with (first | (go_at_call 101; refine (take_ok p l 4 _ hl.1 hl.2 h4).mono ?_; rintro e w1 ⟨rfl, rfl⟩))
    go_loopw [3, 10] (fun t i wr => ∃ k : Nat, ∃ x : Nat, k ≤ 4 ∧ i = .int .i64 k ∧ Hid (x = valN k (l.take 4)) ∧ t = .int .u32 x ∧ Hid (∀ j, j < 4 → wr.cell? ⟨w.heap.size, j, none⟩ = some (.int .u8 ((l.take 4).getD j 0).toNat)) ∧ Hid (Left p wr (l.drop 4) ∧ Kept (One p.block) w wr)) (fun _ i _ => 4 - (intOf i).toNat)
    case atStart =>
      have e : (w.setCell p (.string (bs (l.drop 4)))).heap.size = w.heap.size := by simp [World.setCell]
      refine ⟨0, 0, by omega, rfl, rfl, rfl, ?_, ?_⟩
      · intro j hj
        rw [← e]
        exact sum_cell _ _ _ _ _ (by simp; omega)
      · exact ⟨((hl.set _).alloc _).drew, (((Kept.refl _ _).setCell (fun _ => rfl) _).alloc _).drew⟩
    case round =>
      obtain ⟨k, x, hk, rfl, HX, rfl, HC, HK⟩ := hrel
      have hx := valN_lt (l.take 4) k
      rw [← HX.out] at hx
      by_cases hk4 : k < 4
      · have hc := HC.out k hk4
        obtain ⟨d, hd⟩ : ∃ d, d = (l.take 4).getD k 0 := ⟨_, rfl⟩
        rw [← hd] at hc
        have HN : Hid (valN (k + 1) (l.take 4) = x + d.toNat * 2 ^ (8 * k)) := by rw [HX.out, hd]; rfl
        clear hd
        have ho := or8 k x d hk4 hx
        have hd := d.toNat_lt
        go_wp2
        go_roundw
        case rel => exact ⟨k + 1, x + d.toNat * 2 ^ (8 * k), by omega, by go_num, HN.out.symm, by push_cast; rfl, HC, HK⟩
        case measure => simp [intOf]; omega
      · have HR : Hid (rdSum l = .ok (x, l.drop 4)) := by
          obtain rfl : k = 4 := by omega
          rw [HX.out]; exact if_pos h4
        go_wp2
        go_ret
        unfold RdPost
        rw [HR.out]
        exact ⟨⟨_, rfl, rfl⟩, HK.out.1, HK.out.2⟩
  · have HR : Hid (rdSum l = .error 3) := if_neg h4
    go_enter Try.func100, Try.ntmps100
    go_wp2_with (first | (go_at_call 101; refine (take_no p l 4 _ hl.1 hl.2 (by omega)).mono ?_; rintro e w1 ⟨rfl, rfl⟩))
    unfold bodyPost RdPost
    rw [HR.out]
    exact ⟨rfl, rfl, .refl _ _⟩

/-- A frame: its body and what stands behind it; all is taken. -/
def rdFrame (l : List UInt8) : Except Int ((List UInt8 × List UInt8) × List UInt8) :=
  match rdText 65536 l with
  | .error c => .error c
  | .ok (body, t) =>
    match rdSum t with
    | .error c => .error c
    | .ok (n, u) => if n = crc body then .ok ((body, u), []) else .error 2
def FrV : List UInt8 × List UInt8 → World → Value → Prop := fun x _ v => v = .agg #[.string (bs x.1), .string (bs x.2)]

theorem rdText_len {most : Nat} {l s t : List UInt8} (h : rdText most l = .ok (s, t)) : s.length ≤ most ∧ s.length + t.length < l.length := by
  unfold rdText at h
  split at h
  · rename_i n u hr
    have := rdUpTo_ok hr
    unfold rdTake at h
    split at h
    · simp only [Except.ok.injEq, Prod.mk.injEq] at h
      obtain ⟨rfl, rfl⟩ := h
      simp
      omega
    · cases h
  · cases h

theorem rdSum_ok {p : Addr} {l t : List UInt8} {n : Nat} {w : World} (hl : Left p w l) (hr : rdSum l = .ok (n, t)) :
    Calls Try.prog 100 #[.pointer (some p)] w fun e w' => e = .returned (.int .u32 n) ∧ w'.cell? p = some (.string (bs t)) ∧ w'.frozen? p = false ∧ Kept (One p.block) w w' := by
  refine (RdPost.ok (rdSum_any p l w hl) hr).mono ?_
  rintro e w' ⟨v, rfl, rfl, h⟩
  exact ⟨rfl, h⟩
theorem rdSum_no {p : Addr} {l : List UInt8} {c : Int} {w : World} (hl : Left p w l) (hr : rdSum l = .error c) :
    Calls Try.prog 100 #[.pointer (some p)] w fun e w' => e = .panicked (up c) ∧ Kept (One p.block) w w' := RdPost.no (rdSum_any p l w hl) hr

set_option maxRecDepth 100000 in
set_option maxHeartbeats 1000000 in
theorem rFrame_any (p : Addr) (l : List UInt8) (w : World) (hl : Left p w l) (hlen : l.length ≤ maxLen) :
    Calls Try.prog 95 #[.pointer (some p)] w (RdPost p w (rdFrame l) FrV) := by
  have hla := hl.alloc (.cells #[.string (bs []), .string (bs [])] 174)
  cases hr : rdText 65536 l with
  | error c =>
    have HR : Hid (rdFrame l = .error c) := by unfold rdFrame; rw [hr]; rfl
    go_enter Try.func95, Try.ntmps95
    go_wp2_with (first | (go_at_call 99; go_must (refine (text_no hla hr).mono ?_); rintro e w1 ⟨rfl, hk⟩))
    unfold bodyPost RdPost
    rw [HR.out]
    exact ⟨rfl, rfl, ((Kept.refl _ _).alloc _).trans hk⟩
  | ok r =>
    obtain ⟨body, t⟩ := r
    have hbl := rdText_len hr
    have HB : Hid (p.block < w.heap.size) := cell_lt hl.cell
    have HN : Hid ((w.alloc (.cells #[.string (bs []), .string (bs [])] 174)).heap[w.heap.size]? = some (.cells #[.string (bs []), .string (bs [])] 174 (0, 0))) := blk_new w _
    have HX : Hid (¬ One p.block w.heap.size (.cells #[.string (bs []), .string (bs [])] 174 (0, 0))) := fun (e : w.heap.size = p.block) => by have := HB.out; omega
    have HS := fun w => sum_any body w (by omega)
    cases hs : rdSum t with
    | error c =>
      have HR : Hid (rdFrame l = .error c) := by show rdFrame l = _; unfold rdFrame; rw [hr]; simp only [hs]
      clear hbl hlen
      go_enter Try.func95, Try.ntmps95
      go_wp2_with (first | (go_at_call 99; go_must (refine (text_ok hla hr).mono ?_); rintro e w1 ⟨rfl, hc1, hz1, hk⟩) | (go_at_call 100; go_must (refine (rdSum_no ⟨hc1, hz1⟩ hs).mono ?_); rintro e w2 ⟨rfl, hk2⟩))
      unfold bodyPost RdPost
      rw [HR.out]
      exact ⟨rfl, rfl, (((Kept.refl _ _).alloc _).trans hk).trans hk2⟩
    | ok r2 =>
      obtain ⟨n, u⟩ := r2
      have hul : u.length ≤ maxLen := by
        unfold rdSum at hs
        split at hs
        · simp only [Except.ok.injEq, Prod.mk.injEq] at hs
          obtain ⟨_, rfl⟩ := hs
          simp; omega
        · cases hs
      unfold maxLen at hul
      have hsz := bs_size u
      clear hlen
      by_cases hn : n = crc body
      · have HR : Hid (rdFrame l = .ok ((body, u), [])) := by unfold rdFrame; rw [hr]; simp only [hs]; exact if_pos hn
        subst hn
        clear hbl
        go_enter Try.func95, Try.ntmps95
        go_wp2_with (first | (go_at_call 99; go_must (refine (text_ok hla hr).mono ?_); rintro e w1 ⟨rfl, hc1, hz1, hk⟩) | (go_at_call 100; go_must (refine (rdSum_ok ⟨hc1, hz1⟩ hs).mono ?_); rintro e w2 ⟨rfl, hc2, hz2, hk2⟩) | (go_at_call 89; refine (HS _).mono ?_; rintro e w3 ⟨rfl, rfl⟩) | (go_at_call 98; go_must (refine (must_ok _ _).mono ?_); rintro e w4 ⟨rfl, rfl⟩) | (go_at_call 101; go_must (refine (take_ok p u u.length _ hc2 hz2 (Nat.le_refl _)).mono ?_); rintro e w5 ⟨rfl, hw5⟩; have hbr : w5.heap[w.heap.size]? = _ := hw5 ▸ blk_other (hk2.block _ _ (hk.block _ _ HN.out HX.out) HX.out) (Nat.ne_of_gt HB.out) _; have hl5 : Left p w5 (u.drop u.length) := hw5 ▸ Left.set ⟨hc2, hz2⟩ _; have hk5 : Kept (One p.block) w4 w5 := hw5 ▸ (Kept.refl _ _).setCell (fun _ => rfl) _; clear hw5; have g0 := blk_cell hbr 0; have g1 := blk_cell hbr 1; have f0 := blk_free hbr 0; have f1 := blk_free hbr 1; simp only [List.getElem?_toArray, List.getElem?_cons_zero, List.getElem?_cons_succ] at g0 g1))
        refine bodyPost_ret (v := .agg #[.string (bs body), .string (bs u)]) (by simp [results, Try.results95, go_sem, g0, g1]) rfl ?_
        unfold RdPost
        rw [HR.out]
        rw [List.drop_length] at hl5
        exact ⟨⟨_, rfl, rfl⟩, (hl5.other (Nat.ne_of_lt HB.out) _).other (Nat.ne_of_lt HB.out) _, ((((((Kept.refl _ _).alloc _).trans hk).trans hk2).trans hk5).setNew (Nat.le_refl _) _).setNew (Nat.le_refl _) _⟩
      · have HR : Hid (rdFrame l = .error 2) := by unfold rdFrame; rw [hr]; simp only [hs]; exact if_neg hn
        have hn' : ((n : Int) == (crc body : Int)) = false := by simp; omega
        clear hbl hn
        go_enter Try.func95, Try.ntmps95
        go_wp2_with (first | (go_at_call 99; go_must (refine (text_ok hla hr).mono ?_); rintro e w1 ⟨rfl, hc1, hz1, hk⟩) | (go_at_call 100; go_must (refine (rdSum_ok ⟨hc1, hz1⟩ hs).mono ?_); rintro e w2 ⟨rfl, hc2, hz2, hk2⟩) | (go_at_call 89; refine (HS _).mono ?_; rintro e w3 ⟨rfl, rfl⟩) | (go_at_call 98; go_must (refine (must_no _ _).mono ?_); rintro e w4 ⟨rfl, rfl⟩))
        unfold bodyPost RdPost
        rw [HR.out]
        exact ⟨rfl, rfl, (((Kept.refl _ _).alloc _).trans hk).trans hk2⟩

end Go.Proofs.Ytpfgnhockfofhaa

/-
  The program's read: a reader that gives up is caught, and the error stands in the answer.
-/
namespace Go.Proofs.Ytpfgnhockfofhaa
open Go.RowKit

theorem catch_slots (a b t : Value) : #[a, b] ++ ((Array.replicate 18 undef).setIfInBounds 4 t).setIfInBounds 0 t = #[a, b, t, undef, undef, undef, t, undef, undef, undef, undef, undef, undef, undef, undef, undef, undef, undef, undef, undef] := by
  apply Array.ext'
  simp [List.replicate]

theorem assert_up (c : Int) (w : World) : (Instr.typeAssert (.iface 183 (.agg #[.int .i64 c])) 20 183 true).run Try.prog w = .ok (.tuple #[.agg #[.int .i64 c], .bool true]) w := by
  simp [Instr.typeAssert, run_underlying Try.underlying183]

set_option maxRecDepth 100000 in
set_option maxHeartbeats 600000 in
/-- What the two named results hold behind a caught panic: the zero value and the reason. -/
theorem catchF_panic (A E : Nat) (c : Int) (x0 x1 z : Value) (w : World) (hA : w.heap[A]? = some (.cells #[x0, x1] 174 (0, 0))) (hE : w.heap[E]? = some (.cells #[z] 24 (0, 0))) (hne : A ≠ E) :
    CallsD Try.prog 97 #[.pointer (some ⟨A, 0, none⟩), .pointer (some ⟨E, 0, none⟩)] (.panicking (up c)) w fun e u' w' =>
      e = .returned (.tuple #[]) ∧ u' = .panicking [{ v := .iface 183 (.agg #[.int .i64 c]), recovered := true }] ∧
      w'.heap[A]? = some (.cells #[.string (bs []), .string (bs [])] 174 (0, 0)) ∧ w'.heap[E]? = some (.cells #[.int .i64 c] 24 (0, 0)) ∧ Kept (fun k _ => k = A ∨ k = E) w w' := by
  have a0 := blk_cell hA 0
  have a1 := blk_cell hA 1
  have e0 := blk_cell hE 0
  have fa0 := blk_free hA 0
  have fa1 := blk_free hA 1
  have fe0 := blk_free hE 0
  simp only [List.getElem?_toArray, List.getElem?_cons_zero, List.getElem?_cons_succ] at a0 a1 e0
  refine callsD_of_wpS Try.func97 rfl fun c₀ cs hu => ?_
  unfold up at hu
  apply wpS_seq
  apply wpS_region
  simp [wpOpsS, go_sem, recoverD, hu, Try.ntmps97, Exit.thenS]
  refine wpS_of_wp ?_
  rw [catch_slots]
  clear hu
  have hta := assert_up
  have hAl := lt_of_block hA
  have hEl := lt_of_block hE
  go_wp2
  go_region
  refine ⟨rfl, _, rfl, .tuple #[], by simp [results, Try.results97], rfl, rfl, ?_⟩
  exact ⟨blk_past (blk_past (blk_other (blk_set (blk_set hA 0 _) 1 _) hne _) _) _, blk_past (blk_past (blk_set (blk_other (blk_other hE hne.symm _) hne.symm _) 0 _) _) _,
    (((((Kept.refl _ _).setCell (fun _ => .inl rfl) _).setCell (fun _ => .inl rfl) _).setCell (fun _ => .inr rfl) _).alloc _).alloc _ |>.drew⟩

set_option maxRecDepth 100000 in
set_option maxHeartbeats 600000 in
theorem catchF_idle (A E : Addr) (w : World) :
    CallsD Try.prog 97 #[.pointer (some A), .pointer (some E)] .returning w fun e u' w' => e = .returned (.tuple #[]) ∧ u' = .returning ∧ w' = w := by
  refine callsD_of_wpS Try.func97 rfl fun c₀ cs hu => ?_
  apply wpS_seq
  apply wpS_region
  simp [wpOpsS, go_sem, recoverD, hu, Try.ntmps97, Exit.thenS]
  refine wpS_of_wp ?_
  rw [catch_slots]
  go_wp2
  refine ⟨rfl, .returning, ?_, .tuple #[], by simp [results, Try.results97], rfl, rfl, rfl⟩
  cases c₀
  simp_all

theorem three (w : World) (o1 o2 o3 : Obj) : (((w.alloc o1).alloc o2).alloc o3).heap[w.heap.size]? = some o1 ∧ (((w.alloc o1).alloc o2).alloc o3).heap[w.heap.size + 1]? = some o2 ∧ (((w.alloc o1).alloc o2).alloc o3).heap[w.heap.size + 2]? = some o3 := by
  have e1 : (w.alloc o1).heap.size = w.heap.size + 1 := by simp
  have e2 : ((w.alloc o1).alloc o2).heap.size = w.heap.size + 2 := by simp
  refine ⟨blk_past (blk_past (blk_new w o1) _) _, ?_, ?_⟩
  · have := blk_past (blk_new (w.alloc o1) o2) o3
    rwa [e1] at this
  · have := blk_new ((w.alloc o1).alloc o2) o3
    rwa [e2] at this
theorem Left.ofBlk {b : Nat} {w : World} {l : List UInt8} {t : TypeId} (h : w.heap[b]? = some (.cells #[.string (bs l)] t (0, 0))) : Left ⟨b, 0, none⟩ w l := ⟨blk_cell h 0, blk_free h 0⟩
/-- What is new behind a world may turn. -/
theorem Kept.ofNew {w w1 w' : World} {X : Nat → Obj → Prop} (h1 : Kept Nil w w1) (h : Kept X w1 w') (hX : ∀ k o, X k o → w.heap.size ≤ k) : Kept Nil w w' :=
  Kept.ofBelow ((h1.below (B := w.heap.size) (fun _ _ x => x.elim) (Nat.le_refl _)).trans (h.below hX h1.size)) _

set_option maxRecDepth 100000 in
set_option maxHeartbeats 600000 in
theorem readF_err (l : List UInt8) (c : Int) (w : World) (hlen : l.length ≤ maxLen) (hr : rdFrame l = .error c) :
    Calls Try.prog 94 #[.string (bs l), .func (.func 95) #[] #[]] w fun e w' => e = .returned (.tuple #[.agg #[.string (bs []), .string (bs [])], .int .i64 c]) ∧ Kept Nil w w' := by
  have hmf : ∀ (fn : Fn) (first cap : Array Value) (w : World), (Instr.makeFunc fn first cap).run Try.prog w = .ok (.func fn first cap) w := fun _ _ _ _ => rfl
  obtain ⟨hA, hE, hR⟩ := three w (.cells #[.string (bs []), .string (bs [])] 174) (.cells #[.int .i64 0] 24) (.cells #[.string (bs l)] 186)
  have H := RdPost.no (rFrame_any _ l _ (Left.ofBlk hR) hlen) hr
  have HA : Hid _ := hA
  have HE : Hid _ := hE
  clear hA hE hR hr hlen
  go_enter_defers Try.func94, Try.ntmps94
  go_wp2_with (first | (go_at_call 95; go_must (refine H.mono ?_); rintro e w1 ⟨rfl, hk⟩))
  have hA1 := hk.block _ _ HA.out (show ¬ w.heap.size = w.heap.size + 2 by omega)
  have hE1 := hk.block _ _ HE.out (show ¬ w.heap.size + 1 = w.heap.size + 2 by omega)
  refine leaves_cons (f := 97) (args := #[.pointer (some ⟨w.heap.size, 0, none⟩), .pointer (some ⟨w.heap.size + 1, 0, none⟩)]) (by simp) (by simp [go_sem]) ?_
  refine (catchF_panic w.heap.size (w.heap.size + 1) c _ _ _ w1 hA1 hE1 (by omega)).mono ?_
  rintro e u' w2 ⟨rfl, rfl, hA2, hE2, hk2⟩
  have a0 := blk_cell hA2 0
  have a1 := blk_cell hA2 1
  have e0 := blk_cell hE2 0
  simp only [List.getElem?_toArray, List.getElem?_cons_zero, List.getElem?_cons_succ] at a0 a1 e0
  simp [Leaves, settle, results, Try.results94, go_sem, a0, a1, e0]
  exact Kept.ofNew (Kept.ofNew ((((Kept.refl _ _).alloc _).alloc _).alloc _) hk (fun k _ h => by have : k = w.heap.size + 2 := h; omega)) hk2 (fun k _ h => by rcases h with rfl | rfl <;> omega)

set_option maxRecDepth 100000 in
set_option maxHeartbeats 600000 in
theorem readF_ok (l : List UInt8) (x : List UInt8 × List UInt8) (w : World) (hlen : l.length ≤ maxLen) (hr : rdFrame l = .ok (x, [])) :
    Calls Try.prog 94 #[.string (bs l), .func (.func 95) #[] #[]] w fun e w' => e = .returned (.tuple #[.agg #[.string (bs x.1), .string (bs x.2)], .int .i64 0]) ∧ Kept Nil w w' := by
  have hmf : ∀ (fn : Fn) (first cap : Array Value) (w : World), (Instr.makeFunc fn first cap).run Try.prog w = .ok (.func fn first cap) w := fun _ _ _ _ => rfl
  obtain ⟨hA, hE, hR⟩ := three w (.cells #[.string (bs []), .string (bs [])] 174) (.cells #[.int .i64 0] 24) (.cells #[.string (bs l)] 186)
  have H := RdPost.ok (rFrame_any _ l _ (Left.ofBlk hR) hlen) hr
  have HA : Hid _ := hA
  have HE : Hid _ := hE
  have hq := bs_toList []
  obtain ⟨y, z⟩ := x
  clear hA hE hR hr hlen
  go_enter_defers Try.func94, Try.ntmps94
  go_wp2_with (first | (go_at_call 95; go_must (refine H.mono ?_); rintro e w1 ⟨v, rfl, hv, hc, hz, hk⟩; unfold FrV at hv; subst hv; have hA1 := hk.block _ _ HA.out (show ¬ w.heap.size = w.heap.size + 2 by omega); have hE1 := hk.block _ _ HE.out (show ¬ w.heap.size + 1 = w.heap.size + 2 by omega); have a0 := blk_cell hA1 0; have a1 := blk_cell hA1 1; have e0 := blk_cell hE1 0; have fa0 := blk_free hA1 0; have fa1 := blk_free hA1 1; have fe0 := blk_free hE1 0; simp only [List.getElem?_toArray, List.getElem?_cons_zero, List.getElem?_cons_succ] at a0 a1 e0) | (go_at_call 98; go_must (refine (must_ok _ _).mono ?_); rintro e w4 ⟨rfl, rfl⟩))
  refine leaves_cons (f := 97) (args := #[.pointer (some ⟨w.heap.size, 0, none⟩), .pointer (some ⟨w.heap.size + 1, 0, none⟩)]) (by simp) (by simp [go_sem]) ?_
  refine (catchF_idle ⟨w.heap.size, 0, none⟩ ⟨w.heap.size + 1, 0, none⟩ _).mono ?_
  rintro e u' w2 ⟨rfl, rfl, hw2⟩
  have hne : w.heap.size ≠ w.heap.size + 1 := by omega
  have hA3 : w2.heap[w.heap.size]? = some (.cells #[.string (bs y), .string (bs z)] 174 (0, 0)) := by rw [hw2]; exact blk_other (blk_set (blk_set (blk_set (blk_set hA1 0 _) 1 _) 0 _) 1 _) hne _
  have hE3 : w2.heap[w.heap.size + 1]? = some (.cells #[.int .i64 0] 24 (0, 0)) := by rw [hw2]; exact blk_set (blk_other (blk_other (blk_other (blk_other hE1 hne.symm _) hne.symm _) hne.symm _) hne.symm _) 0 _
  have hk3 : Kept (fun k _ => w.heap.size ≤ k) w1 w2 := by rw [hw2]; exact ((((((Kept.refl _ _).setCell (fun _ => Nat.le_refl _) _).setCell (fun _ => Nat.le_refl _) _).setCell (fun _ => Nat.le_refl _) _).setCell (fun _ => Nat.le_refl _) _).setCell (fun _ => Nat.le_succ _) _)
  clear hw2
  have b0 := blk_cell hA3 0
  have b1 := blk_cell hA3 1
  have c0 := blk_cell hE3 0
  simp only [List.getElem?_toArray, List.getElem?_cons_zero, List.getElem?_cons_succ] at b0 b1 c0
  simp [Leaves, settle, results, Try.results94, go_sem, b0, b1, c0]
  exact Kept.ofNew (Kept.ofNew ((((Kept.refl _ _).alloc _).alloc _).alloc _) hk (fun k _ h => by have : k = w.heap.size + 2 := h; omega)) hk3 (fun k _ h => h)

end Go.Proofs.Ytpfgnhockfofhaa

/-
  Unframe, and the document's Unframe: the same plain answer.
-/
namespace Go.Proofs.Ytpfgnhockfofhaa
open Go.RowKit

/-- A frame's body, what stands behind it, the error. -/
def unF (l : List UInt8) : List UInt8 × List UInt8 × Int :=
  match rdFrame l with
  | .ok (x, _) => (x.1, x.2, 0)
  | .error c => ([], [], c)

theorem rdFrame_nil {l : List UInt8} {x : List UInt8 × List UInt8} {t : List UInt8} (h : rdFrame l = .ok (x, t)) : t = [] := by
  unfold rdFrame at h
  split at h
  · cases h
  · split at h
    · cases h
    · split at h
      · simp only [Except.ok.injEq, Prod.mk.injEq] at h; exact h.2.symm
      · cases h

theorem readF_any (l : List UInt8) (w : World) (hlen : l.length ≤ maxLen) :
    Calls Try.prog 94 #[.string (bs l), .func (.func 95) #[] #[]] w fun e w' => e = .returned (.tuple #[.agg #[.string (bs (unF l).1), .string (bs (unF l).2.1)], .int .i64 (unF l).2.2]) ∧ Kept Nil w w' := by
  unfold unF
  cases hr : rdFrame l with
  | error c => exact readF_err l c w hlen hr
  | ok r =>
    obtain ⟨x, t⟩ := r
    obtain rfl := rdFrame_nil hr
    exact readF_ok l x w hlen hr

set_option maxRecDepth 100000 in
set_option maxHeartbeats 600000 in
theorem unframe_any (l : List UInt8) (w : World) (hlen : l.length ≤ maxLen) :
    Calls Try.prog 91 #[.string (bs l)] w fun e w' => e = .returned (.tuple #[.string (bs (unF l).1), .string (bs (unF l).2.1), .int .i64 (unF l).2.2]) ∧ Kept Nil w w' := by
  have H := readF_any l w hlen
  generalize unF l = u at H ⊢
  obtain ⟨a, b, c⟩ := u
  simp only at H ⊢
  clear hlen
  go_enter Try.func91, Try.ntmps91
  go_wp2_with (first | (go_at_call 94; go_must (refine H.mono ?_); rintro e w1 ⟨rfl, hk⟩))
  go_region
  all_goals (try go_wp2)
  all_goals go_ret3
  all_goals exact ⟨rfl, (hk.alloc _).drew⟩

theorem val4 (x a b c d : Nat) (ha : a < 256) (hb : b < 256) (hc : c < 256) :
    a + b * 256 + c * 65536 + d * 16777216 = x ↔ (a = x % 256 ∧ b = x / 256 % 256 ∧ c = x / 65536 % 256 ∧ d = x / 16777216) := by
  omega

theorem ofNat_eq {d : UInt8} {n : Nat} (h : n < 256) : d = UInt8.ofNat n ↔ d.toNat = n := by
  rw [← UInt8.toNat_inj, ofNat_toNat h]

theorem len4 {l : List UInt8} (h : l.length = 4) : ∃ a b c d, l = [a, b, c, d] := by
  match l, h with
  | [a, b, c, d], _ => exact ⟨a, b, c, d, rfl⟩

theorem val_le4 {l : List UInt8} {x : Nat} (h : l.length = 4) (hx : x < 4294967296) : valN 4 l = x ↔ l = le4 x := by
  obtain ⟨a, b, c, d, rfl⟩ := len4 h
  have ha := a.toNat_lt
  have hb := b.toNat_lt
  have hc := c.toNat_lt
  have := val4 x a.toNat b.toNat c.toNat d.toNat ha hb hc
  simp only [valN, List.getD_cons_zero, List.getD_cons_succ]
  simp only [le4, List.cons.injEq, and_true]
  rw [ofNat_eq (by omega), ofNat_eq (by omega), ofNat_eq (by omega), ofNat_eq (by omega), Nat.mod_eq_of_lt (show x / 16777216 < 256 by omega)]
  rw [← this]
  simp

theorem rdFrame_if {l body t : List UInt8} (h : rdText 65536 l = .ok (body, t)) (h4 : 4 ≤ t.length) : rdFrame l = if valN 4 (t.take 4) = crc body then .ok ((body, t.drop 4), []) else .error 2 := by
  unfold rdFrame
  rw [h]
  simp only [show rdSum t = .ok (valN 4 (t.take 4), t.drop 4) from if_pos h4]
theorem val_sum (t body : List UInt8) (h4 : 4 ≤ t.length) : valN 4 (t.take 4) = crc body ↔ t.take 4 = le4 (crc body) := val_le4 (by simp; omega) (crc_lt body)
theorem unF_yes {l body t : List UInt8} (h : rdText 65536 l = .ok (body, t)) (h4 : 4 ≤ t.length) (hs : t.take 4 = le4 (crc body)) : unF l = (body, t.drop 4, 0) := by
  unfold unF
  rw [rdFrame_if h h4, if_pos ((val_sum t body h4).2 hs)]
theorem unF_sum {l body t : List UInt8} (h : rdText 65536 l = .ok (body, t)) (h4 : 4 ≤ t.length) (hs : ¬ t.take 4 = le4 (crc body)) : unF l = ([], [], 2) := by
  unfold unF
  rw [rdFrame_if h h4, if_neg (fun e => hs ((val_sum t body h4).1 e))]

end Go.Proofs.Ytpfgnhockfofhaa

/-
  What the texts on single records share: readings one behind another, the document's reader behind a fault, blocks that are none of the writer's.
-/
namespace Go.Proofs.Ytpfgnhockfofhaa
open Go.RowKit

theorem WInv.alloc {b : Nat} {w : World} {l : List UInt8} (h : WInv b w l) (o : Obj) : WInv b (w.alloc o) l := by
  obtain ⟨ao, c, hb, ho⟩ := h
  exact ⟨ao, c, blk_past hb o, ho.alloc o⟩
theorem WInv.lt {b : Nat} {w : World} {l : List UInt8} (h : WInv b w l) : b < w.heap.size := by
  obtain ⟨ao, c, hb, ho⟩ := h
  exact lt_of_block hb
theorem Left.kept {p : Addr} {w w' : World} {l : List UInt8} (h : Left p w l) (k : Kept Nil w w') : Left p w' l := by
  have hlt := cell_lt h.cell
  have e : w'.heap[p.block]? = w.heap[p.block]? := by
    rw [k.block p.block _ (Array.getElem?_eq_getElem hlt) (fun x => x.elim), Array.getElem?_eq_getElem hlt]
  exact ⟨(World.cell?_of_block e).trans h.cell, (World.frozen?_of_block e).trans h.free⟩
end Go.Proofs.Ytpfgnhockfofhaa

/-
  Which entries may be, by the program and by the document's answer; an entry written by either.
-/
namespace Go.Proofs.Ytpfgnhockfofhaa
open Go.RowKit

/-- An entry, plainly. -/
structure En where
  ix : Int
  tm : Int
  kd : Int
  dt : List UInt8
def isCnt (x : Int) : Bool := decide (1 ≤ x) && decide (x ≤ 1099511627775)
def En.ok (x : En) : Bool := isCnt x.ix && isCnt x.tm && (if x.kd = 0 then x.dt.isEmpty else if x.kd = 1 ∨ x.kd = 2 then decide (x.dt.length ≤ 256) else false)

/-! ### the document's -/
end Go.Proofs.Ytpfgnhockfofhaa

/-
  Pairs: rows of three cells; may they be: by the program.
-/
namespace Go.Proofs.Ytpfgnhockfofhaa
open Go.RowKit

structure Pr where
  k : List UInt8
  v : List UInt8
  n : Int
/-- A row of pairs that lies below block B. -/
def PairRow (B : Nat) (w : World) (ao : Option Addr) (ps : List Pr) : Prop := ∀ j, (hj : j < ps.length) → ∃ a, ao = some a ∧ a.block < B ∧ w.cell? (a.add (j * 3)) = some (.string (bs ps[j].k)) ∧ w.cell? ⟨(a.add (j * 3)).block, (a.add (j * 3)).off + 1, none⟩ = some (.string (bs ps[j].v)) ∧ w.cell? ⟨(a.add (j * 3)).block, (a.add (j * 3)).off + 2, none⟩ = some (.int .i64 ps[j].n) ∧ ps[j].k.length ≤ maxLen ∧ ps[j].v.length ≤ maxLen
theorem cell_kept {X : Nat → Obj → Prop} {w w' : World} {a : Addr} {v : Value} (hk : Kept X w w') (hX : ∀ o, ¬ X a.block o) (h : w.cell? a = some v) : w'.cell? a = some v := by
  have hlt : a.block < w.heap.size := World.block_lt_of_cell? w _ h
  rw [World.cell?_of_block (w := w) (by rw [hk.block a.block _ (Array.getElem?_eq_getElem hlt) (hX _), Array.getElem?_eq_getElem hlt])]
  exact h
theorem add_block (a : Addr) (n : Nat) : (a.add n).block = a.block := by unfold Addr.add; split <;> rfl
theorem PairRow.kept {X : Nat → Obj → Prop} {B : Nat} {w w' : World} {ao : Option Addr} {ps : List Pr} (h : PairRow B w ao ps) (hk : Kept X w w') (hX : ∀ k o, k < B → ¬ X k o) : PairRow B w' ao ps := by
  intro j hj
  obtain ⟨a, ha, hb, c1, c2, c3, l1, l2⟩ := h j hj
  refine ⟨a, ha, hb, cell_kept hk (fun o => ?_) c1, cell_kept hk (fun o => ?_) c2, cell_kept hk (fun o => ?_) c3, l1, l2⟩ <;> exact hX _ _ (by simpa [add_block] using hb)
theorem PairRow.nil {B : Nat} {w w' : World} {ao : Option Addr} {ps : List Pr} (h : PairRow B w ao ps) (hk : Kept Nil w w') : PairRow B w' ao ps := h.kept hk (fun _ _ _ x => x)
theorem PairRow.alloc {B : Nat} {w : World} {ao : Option Addr} {ps : List Pr} (h : PairRow B w ao ps) (o : Obj) : PairRow B (w.alloc o) ao ps := h.nil ((Kept.refl _ _).alloc o)
end Go.Proofs.Ytpfgnhockfofhaa

/-
  What comes of the sum and of numbers written: no two texts that part in up to four bytes standing together have one sum; what is written of a number is read again; what is cut off is short.
-/
namespace Go.Proofs.Ytpfgnhockfofhaa

/-! ### what is written is read -/

theorem numGo_enc : ∀ (n k x : Nat) (t : List UInt8), x + n * 2 ^ (7 * k) ≤ maxNum → (n ≠ 0 ∨ k = 0) → numGo k x (enc n ++ t) = .ok (x + n * 2 ^ (7 * k), t) := by
  intro n
  induction n using Nat.strongRecOn with
  | ind n ih =>
  intro k x t hm hz
  have hk : k ≤ 5 := by
    rcases hz with hz | hz
    · by_cases hk : k ≤ 5
      · exact hk
      · have h1 : 2 ^ (7 * 6) ≤ 2 ^ (7 * k) := Nat.pow_le_pow_right (by omega) (by omega)
        have h2 : 1 * 2 ^ (7 * k) ≤ n * 2 ^ (7 * k) := Nat.mul_le_mul_right _ (by omega)
        unfold maxNum at hm
        omega
    · omega
  by_cases h : n < 128
  · obtain ⟨d, e, hd⟩ := enc_small_byte h
    rw [e]
    show numGo k x (d :: t) = _
    have hmod : d.toNat % 128 = n := by omega
    rw [numGo_end (by rw [hmod, hd]; exact ⟨hk, hm, hz⟩) (by omega), hmod]
  · obtain ⟨d, e, hd⟩ := enc_big_byte h
    rw [e]
    show numGo k x (d :: (enc (n / 128) ++ t)) = _
    have hmod : d.toNat % 128 = n % 128 := by omega
    have hs : x + n % 128 * 2 ^ (7 * k) + n / 128 * 2 ^ (7 * (k + 1)) = x + n * 2 ^ (7 * k) := by
      have h1 : 2 ^ (7 * (k + 1)) = 128 * 2 ^ (7 * k) := by rw [Nat.mul_add, Nat.pow_add]; omega
      rw [h1, ← Nat.mul_assoc, Nat.add_assoc, ← Nat.add_mul]
      congr 2
      omega
    rw [numGo_more (by rw [hmod]; exact ⟨hk, by omega, .inl (by omega)⟩) (by omega), hmod, ih (n / 128) (by omega) (k + 1) _ t (by omega) (.inl (by omega)), hs]

theorem rdNum_enc {n : Nat} (h : n ≤ maxNum) (t : List UInt8) : rdNum (enc n ++ t) = .ok (n, t) := by
  have := numGo_enc n 0 0 t (by simpa using h) (.inr rfl)
  unfold rdNum
  simpa using this

theorem rdUpTo_enc {n most : Nat} (h : n ≤ maxNum) (hm : n ≤ most) (t : List UInt8) : rdUpTo most (enc n ++ t) = .ok (n, t) := by
  unfold rdUpTo
  rw [rdNum_enc h]
  exact if_pos hm
theorem rdText_enc {s : List UInt8} {most : Nat} (h : s.length ≤ maxNum) (hm : s.length ≤ most) (t : List UInt8) : rdText most (encText s ++ t) = .ok (s, t) := by
  unfold rdText encText
  rw [List.append_assoc, rdUpTo_enc h hm]
  show rdTake s.length (s ++ t) = _
  unfold rdTake
  rw [if_pos (by simp)]
  simp

/-- A frame, whatever its sum: read by its length. -/
theorem unF_frame {s q t : List UInt8} (hs : s.length ≤ 65536) (hq : q.length = 4) : unF (encText s ++ q ++ t) = if q = le4 (crc s) then (s, t, 0) else ([], [], 2) := by
  have h1 : rdText 65536 (encText s ++ q ++ t) = .ok (s, q ++ t) := by rw [List.append_assoc]; exact rdText_enc (by unfold maxNum; omega) hs _
  have h4 : 4 ≤ (q ++ t).length := by simp; omega
  have hq4 : (q ++ t).take 4 = q := by rw [← hq, List.take_left]
  by_cases he : q = le4 (crc s)
  · rw [if_pos he, unF_yes h1 h4 (by rw [hq4]; exact he), ← hq, List.drop_left]
  · rw [if_neg he, unF_sum h1 h4 (by rw [hq4]; exact he)]

theorem unF_whole {s : List UInt8} (hs : s.length ≤ 65536) (t : List UInt8) : unF (encFrame s ++ t) = (s, t, 0) := by
  unfold encFrame
  rw [unF_frame hs rfl, if_pos rfl]
theorem encFrame_len (s : List UInt8) : (encFrame s).length = (enc s.length).length + s.length + 4 := by
  simp only [encFrame, encText, le4, List.length_append, List.length_cons, List.length_nil]

/-! ### the turned bytes -/
theorem turned_step {a b : List UInt8} {i : Nat} {m : UInt8} (hi : i < a.length) (hs : b[i]? = a[i]?) : (b.set i (a[i] ^^^ m) = b ↔ m = 0) := by
  have hib : i < b.length := by
    by_cases h : i < b.length
    · exact h
    · rw [List.getElem?_eq_none (by omega), List.getElem?_eq_getElem hi] at hs; cases hs
  have hv : b[i] = a[i] := by
    rw [List.getElem?_eq_getElem hib, List.getElem?_eq_getElem hi] at hs
    simpa using hs
  constructor
  · intro h
    have h2 : (b.set i (a[i] ^^^ m))[i]? = b[i]? := by rw [h]
    rw [List.getElem?_set_self hib, List.getElem?_eq_getElem hib, hv] at h2
    have h3 : a[i] ^^^ m = a[i] := by simpa using h2
    have h4 := congrArg (a[i] ^^^ ·) h3
    simpa [← UInt8.xor_assoc] using h4
  · rintro rfl
    rw [UInt8.xor_zero, ← hv]
    exact List.set_getElem_self hib

end Go.Proofs.Ytpfgnhockfofhaa
