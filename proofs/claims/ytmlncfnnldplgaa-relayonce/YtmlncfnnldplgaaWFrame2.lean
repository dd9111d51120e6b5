/-
  The program's reader of a frame, Unframe; and the document's: the same plain reading.
-/
import Derived.Test.YtmlncfnnldplgaaWFrame1
import Derived.Test.YtmlncfnnldplgaaWRead
import Derived.Recover
import Derived.Defers
namespace Go.Proofs.Ytmlncfnnldplgaa
open Go.RowKit

/-- What so many bytes say, the lowest first. -/
def valN : Nat → List UInt8 → Nat
  | 0, _ => 0
  | k + 1, l => valN k l + (l.getD k 0).toNat * 2 ^ (8 * k)
theorem valN_lt (l : List UInt8) : ∀ k, valN k l < 2 ^ (8 * k)
  | 0 => by simp [valN]
  | k + 1 => by
    have ih := valN_lt l k
    have hb := (l.getD k 0).toNat_lt
    have e : 2 ^ (8 * (k + 1)) = 256 * 2 ^ (8 * k) := by rw [Nat.mul_add, Nat.pow_add]; omega
    have : ((l.getD k 0).toNat + 1) * 2 ^ (8 * k) ≤ 256 * 2 ^ (8 * k) := Nat.mul_le_mul_right _ (by omega)
    rw [Nat.add_mul] at this
    show valN k l + _ < _
    omega

theorem cell_lt {w : World} {a : Addr} {v : Value} (h : w.cell? a = some v) : a.block < w.heap.size := by
  cases hb : w.heap[a.block]? with
  | none => simp [World.cell?, hb] at h
  | some o => exact lt_of_block hb
theorem Left.alloc {p : Addr} {w : World} {l : List UInt8} (h : Left p w l) (o : Obj) : Left p (w.alloc o) l :=
  have e := Below.heap_alloc w o p.block (cell_lt h.cell)
  ⟨(World.cell?_of_block e).trans h.cell, (World.frozen?_of_block e).trans h.free⟩
theorem Left.other {p : Addr} {w : World} {l : List UInt8} (h : Left p w l) {a : Addr} (ha : p.block ≠ a.block) (u : Value) : Left p (w.setCell a u) l :=
  have e := Below.heap_setCell w a u p.block ha
  ⟨(World.cell?_of_block e).trans h.cell, (World.frozen?_of_block e).trans h.free⟩
theorem Left.drew {p : Addr} {w : World} {l : List UInt8} (h : Left p w l) : Left p w.drew l := ⟨h.cell, h.free⟩

theorem or8 (k x : Nat) (d : UInt8) (hk : k < 4) (hx : x < 2 ^ (8 * k)) : bits BinOp.or IntKind.u32 (x : Int) ((d.toNat : Int) * 2 ^ (8 * k) % 4294967296) = ((x + d.toNat * 2 ^ (8 * k) : Nat) : Int) := by
  have hd := d.toNat_lt
  have hp : 2 ^ (8 * k) ≤ 2 ^ 24 := Nat.pow_le_pow_right (by omega) (by omega)
  have hm : d.toNat * 2 ^ (8 * k) ≤ 255 * 2 ^ 24 := Nat.mul_le_mul (by omega) hp
  have e : ((d.toNat : Int) * 2 ^ (8 * k) % 4294967296) = ((d.toNat * 2 ^ (8 * k) : Nat) : Int) := by
    have : ((d.toNat : Int) * 2 ^ (8 * k)) = ((d.toNat * 2 ^ (8 * k) : Nat) : Int) := by push_cast; rfl
    rw [this]; omega
  rw [e, u32_or_nat _ _ (by omega) (by omega), Nat.or_comm, ← Nat.shiftLeft_eq, ← Nat.shiftLeft_add_eq_or_of_lt hx, Nat.add_comm]

def rdSum (l : List UInt8) : Except Int (Nat × List UInt8) := if 4 ≤ l.length then .ok (valN 4 (l.take 4), l.drop 4) else .error 3
def U32V : Nat → World → Value → Prop := fun n _ v => v = .int .u32 n

theorem sum_cell (w : World) (l : List UInt8) (cap k : Nat) (m : Nat × Nat) (hk : k < l.length) :
    (w.alloc (.cells (bytesRow (bs l) cap) 5 m)).drew.cell? ⟨w.heap.size, k, none⟩ = some (.int .u8 (l.getD k 0).toNat) := by
  have hb : (w.alloc (.cells (bytesRow (bs l) cap) 5 m)).drew.heap[w.heap.size]? = some (.cells (bytesRow (bs l) cap) 5 m) := blk_new w _
  simp only [World.cell?, hb]
  simp [bytesRow, bs, hk, Array.getElem?_append, List.getD_eq_getElem?_getD]

set_option maxRecDepth 100000 in
set_option maxHeartbeats 1000000 in
theorem rdSum_any (p : Addr) (l : List UInt8) (w : World) (hl : Left p w l) :
    Calls Try.prog 100 #[.pointer (some p)] w (RdPost p w (rdSum l) U32V) := by
  by_cases h4 : 4 ≤ l.length
  · have hcv := fun w s => run_bytes_of_string (P := Try.prog) w 9 140 5 s Try.underlying9 Try.underlying140 Try.underlying5
    have hsz : (bs (l.take 4)).size = 4 := by rw [bs_size]; simp; omega
    go_enter Try.func100, Try.ntmps100
    go_wp2_with (first | (go_at_call 101; refine (take_ok p l 4 _ hl.1 hl.2 h4).mono ?_; rintro e w1 ⟨rfl, rfl⟩))
    go_loopw [3, 10] (fun t i wr => ∃ k : Nat, ∃ x : Nat, k ≤ 4 ∧ i = .int .i64 k ∧ Hid (x = valN k (l.take 4)) ∧ t = .int .u32 x ∧ Hid (∀ j, j < 4 → wr.cell? ⟨w.heap.size, j, none⟩ = some (.int .u8 ((l.take 4).getD j 0).toNat)) ∧ Hid (Left p wr (l.drop 4) ∧ Kept (One p.block) w wr)) (fun _ i _ => 4 - (intOf i).toNat)
    case atStart =>
      have e : (w.setCell p (.string (bs (l.drop 4)))).heap.size = w.heap.size := by simp [World.setCell]
      refine ⟨0, 0, by omega, rfl, rfl, rfl, ?_, ?_⟩
      · intro j hj
        rw [← e]
        exact sum_cell _ _ _ _ _ (by simp; omega)
      · exact ⟨((hl.set _).alloc _).drew, (((Kept.refl _ _).setCell (fun _ => rfl) _).alloc _).drew⟩
    case round =>
      obtain ⟨k, x, hk, rfl, HX, rfl, HC, HK⟩ := hrel
      have hx := valN_lt (l.take 4) k
      rw [← HX.out] at hx
      by_cases hk4 : k < 4
      · have hc := HC.out k hk4
        obtain ⟨d, hd⟩ : ∃ d, d = (l.take 4).getD k 0 := ⟨_, rfl⟩
        rw [← hd] at hc
        have HN : Hid (valN (k + 1) (l.take 4) = x + d.toNat * 2 ^ (8 * k)) := by rw [HX.out, hd]; rfl
        clear hd
        have ho := or8 k x d hk4 hx
        have hd := d.toNat_lt
        go_wp2
        go_roundw
        case rel => exact ⟨k + 1, x + d.toNat * 2 ^ (8 * k), by omega, by go_num, HN.out.symm, by push_cast; rfl, HC, HK⟩
        case measure => simp [intOf]; omega
      · have HR : Hid (rdSum l = .ok (x, l.drop 4)) := by
          obtain rfl : k = 4 := by omega
          rw [HX.out]; exact if_pos h4
        go_wp2
        go_ret
        unfold RdPost
        rw [HR.out]
        exact ⟨⟨_, rfl, rfl⟩, HK.out.1, HK.out.2⟩
  · have HR : Hid (rdSum l = .error 3) := if_neg h4
    go_enter Try.func100, Try.ntmps100
    go_wp2_with (first | (go_at_call 101; refine (take_no p l 4 _ hl.1 hl.2 (by omega)).mono ?_; rintro e w1 ⟨rfl, rfl⟩))
    unfold bodyPost RdPost
    rw [HR.out]
    exact ⟨rfl, rfl, .refl _ _⟩

/-- A frame: its body and what stands behind it; all is taken. -/
def rdFrame (l : List UInt8) : Except Int ((List UInt8 × List UInt8) × List UInt8) :=
  match rdText 65536 l with
  | .error c => .error c
  | .ok (body, t) =>
    match rdSum t with
    | .error c => .error c
    | .ok (n, u) => if n = crc body then .ok ((body, u), []) else .error 2
def FrV : List UInt8 × List UInt8 → World → Value → Prop := fun x _ v => v = .agg #[.string (bs x.1), .string (bs x.2)]

theorem rdText_len {most : Nat} {l s t : List UInt8} (h : rdText most l = .ok (s, t)) : s.length ≤ most ∧ s.length + t.length < l.length := by
  unfold rdText at h
  split at h
  · rename_i n u hr
    have := rdUpTo_ok hr
    unfold rdTake at h
    split at h
    · simp only [Except.ok.injEq, Prod.mk.injEq] at h
      obtain ⟨rfl, rfl⟩ := h
      simp
      omega
    · cases h
  · cases h

theorem rdSum_ok {p : Addr} {l t : List UInt8} {n : Nat} {w : World} (hl : Left p w l) (hr : rdSum l = .ok (n, t)) :
    Calls Try.prog 100 #[.pointer (some p)] w fun e w' => e = .returned (.int .u32 n) ∧ w'.cell? p = some (.string (bs t)) ∧ w'.frozen? p = false ∧ Kept (One p.block) w w' := by
  refine (RdPost.ok (rdSum_any p l w hl) hr).mono ?_
  rintro e w' ⟨v, rfl, rfl, h⟩
  exact ⟨rfl, h⟩
theorem rdSum_no {p : Addr} {l : List UInt8} {c : Int} {w : World} (hl : Left p w l) (hr : rdSum l = .error c) :
    Calls Try.prog 100 #[.pointer (some p)] w fun e w' => e = .panicked (up c) ∧ Kept (One p.block) w w' := RdPost.no (rdSum_any p l w hl) hr

set_option maxRecDepth 100000 in
set_option maxHeartbeats 1000000 in
theorem rFrame_any (p : Addr) (l : List UInt8) (w : World) (hl : Left p w l) (hlen : l.length ≤ maxLen) :
    Calls Try.prog 95 #[.pointer (some p)] w (RdPost p w (rdFrame l) FrV) := by
  have hla := hl.alloc (.cells #[.string (bs []), .string (bs [])] 174)
  cases hr : rdText 65536 l with
  | error c =>
    have HR : Hid (rdFrame l = .error c) := by unfold rdFrame; rw [hr]; rfl
    go_enter Try.func95, Try.ntmps95
    go_wp2_with (first | (go_at_call 99; go_must (refine (text_no hla hr).mono ?_); rintro e w1 ⟨rfl, hk⟩))
    unfold bodyPost RdPost
    rw [HR.out]
    exact ⟨rfl, rfl, ((Kept.refl _ _).alloc _).trans hk⟩
  | ok r =>
    obtain ⟨body, t⟩ := r
    have hbl := rdText_len hr
    have HB : Hid (p.block < w.heap.size) := cell_lt hl.cell
    have HN : Hid ((w.alloc (.cells #[.string (bs []), .string (bs [])] 174)).heap[w.heap.size]? = some (.cells #[.string (bs []), .string (bs [])] 174 (0, 0))) := blk_new w _
    have HX : Hid (¬ One p.block w.heap.size (.cells #[.string (bs []), .string (bs [])] 174 (0, 0))) := fun (e : w.heap.size = p.block) => by have := HB.out; omega
    have HS := fun w => sum_any body w (by omega)
    cases hs : rdSum t with
    | error c =>
      have HR : Hid (rdFrame l = .error c) := by show rdFrame l = _; unfold rdFrame; rw [hr]; simp only [hs]
      clear hbl hlen
      go_enter Try.func95, Try.ntmps95
      go_wp2_with (first | (go_at_call 99; go_must (refine (text_ok hla hr).mono ?_); rintro e w1 ⟨rfl, hc1, hz1, hk⟩) | (go_at_call 100; go_must (refine (rdSum_no ⟨hc1, hz1⟩ hs).mono ?_); rintro e w2 ⟨rfl, hk2⟩))
      unfold bodyPost RdPost
      rw [HR.out]
      exact ⟨rfl, rfl, (((Kept.refl _ _).alloc _).trans hk).trans hk2⟩
    | ok r2 =>
      obtain ⟨n, u⟩ := r2
      have hul : u.length ≤ maxLen := by
        unfold rdSum at hs
        split at hs
        · simp only [Except.ok.injEq, Prod.mk.injEq] at hs
          obtain ⟨_, rfl⟩ := hs
          simp; omega
        · cases hs
      unfold maxLen at hul
      have hsz := bs_size u
      clear hlen
      by_cases hn : n = crc body
      · have HR : Hid (rdFrame l = .ok ((body, u), [])) := by unfold rdFrame; rw [hr]; simp only [hs]; exact if_pos hn
        subst hn
        clear hbl
        go_enter Try.func95, Try.ntmps95
        go_wp2_with (first | (go_at_call 99; go_must (refine (text_ok hla hr).mono ?_); rintro e w1 ⟨rfl, hc1, hz1, hk⟩) | (go_at_call 100; go_must (refine (rdSum_ok ⟨hc1, hz1⟩ hs).mono ?_); rintro e w2 ⟨rfl, hc2, hz2, hk2⟩) | (go_at_call 89; refine (HS _).mono ?_; rintro e w3 ⟨rfl, rfl⟩) | (go_at_call 98; go_must (refine (must_ok _ _).mono ?_); rintro e w4 ⟨rfl, rfl⟩) | (go_at_call 101; go_must (refine (take_ok p u u.length _ hc2 hz2 (Nat.le_refl _)).mono ?_); rintro e w5 ⟨rfl, hw5⟩; have hbr : w5.heap[w.heap.size]? = _ := hw5 ▸ blk_other (hk2.block _ _ (hk.block _ _ HN.out HX.out) HX.out) (Nat.ne_of_gt HB.out) _; have hl5 : Left p w5 (u.drop u.length) := hw5 ▸ Left.set ⟨hc2, hz2⟩ _; have hk5 : Kept (One p.block) w4 w5 := hw5 ▸ (Kept.refl _ _).setCell (fun _ => rfl) _; clear hw5; have g0 := blk_cell hbr 0; have g1 := blk_cell hbr 1; have f0 := blk_free hbr 0; have f1 := blk_free hbr 1; simp only [List.getElem?_toArray, List.getElem?_cons_zero, List.getElem?_cons_succ] at g0 g1))
        refine bodyPost_ret (v := .agg #[.string (bs body), .string (bs u)]) (by simp [results, Try.results95, go_sem, g0, g1]) rfl ?_
        unfold RdPost
        rw [HR.out]
        rw [List.drop_length] at hl5
        exact ⟨⟨_, rfl, rfl⟩, (hl5.other (Nat.ne_of_lt HB.out) _).other (Nat.ne_of_lt HB.out) _, ((((((Kept.refl _ _).alloc _).trans hk).trans hk2).trans hk5).setNew (Nat.le_refl _) _).setNew (Nat.le_refl _) _⟩
      · have HR : Hid (rdFrame l = .error 2) := by unfold rdFrame; rw [hr]; simp only [hs]; exact if_neg hn
        have hn' : ((n : Int) == (crc body : Int)) = false := by simp; omega
        clear hbl hn
        go_enter Try.func95, Try.ntmps95
        go_wp2_with (first | (go_at_call 99; go_must (refine (text_ok hla hr).mono ?_); rintro e w1 ⟨rfl, hc1, hz1, hk⟩) | (go_at_call 100; go_must (refine (rdSum_ok ⟨hc1, hz1⟩ hs).mono ?_); rintro e w2 ⟨rfl, hc2, hz2, hk2⟩) | (go_at_call 89; refine (HS _).mono ?_; rintro e w3 ⟨rfl, rfl⟩) | (go_at_call 98; go_must (refine (must_no _ _).mono ?_); rintro e w4 ⟨rfl, rfl⟩))
        unfold bodyPost RdPost
        rw [HR.out]
        exact ⟨rfl, rfl, (((Kept.refl _ _).alloc _).trans hk).trans hk2⟩

end Go.Proofs.Ytmlncfnnldplgaa
