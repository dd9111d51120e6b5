/-
  Frames one behind the other, cut anywhere; a frame of which bytes are turned; one of n by any number (pick).
-/
import Derived.Test.YtblmmbghnkplkaaWOld
import Derived.Laws.IdiomStrings
namespace Go.Proofs.Ytblmmbghnkplkaa
open Go.RowKit

theorem pick_val (c n : Int) (hn : 0 < n) : c % n = if c.tmod n < 0 then c.tmod n + n else c.tmod n := by
  have h1 := Int.emod_nonneg c (show n ≠ 0 by omega)
  have h2 := Int.emod_lt_of_pos c hn
  have h3 := Int.tmod_eq_emod (a := c) (b := n)
  have h4 : (n.natAbs : Int) = n := by omega
  split at h3 <;> split <;> omega

set_option maxRecDepth 100000 in
theorem pick_any (c n : Int) (w : World) (hn : 0 < n) (hn2 : n ≤ 9223372036854775807) :
    Calls Try.prog 35 #[.int .i64 c, .int .i64 n] w fun e w' => e = .returned (.int .i64 (c % n)) ∧ w' = w := by
  have hv := pick_val c n hn
  have h1 := Int.emod_nonneg c (show n ≠ 0 by omega)
  have h2 := Int.emod_lt_of_pos c hn
  have hne : (n == 0) = false := by simp; omega
  by_cases hneg : c.tmod n < 0
  · rw [if_pos hneg] at hv
    have HV : Hid (c % n = c.tmod n + n) := hv
    rw [hv] at h1 h2
    clear hv
    go_enter Try.func35, Try.ntmps35
    go_wp2
    go_ret
    rw [HV.out]
    exact ⟨rfl, rfl⟩
  · rw [if_neg hneg] at hv
    have HV : Hid (c % n = c.tmod n) := hv
    rw [hv] at h1 h2
    clear hv
    go_enter Try.func35, Try.ntmps35
    go_wp2
    go_ret
    rw [HV.out]
    exact ⟨rfl, rfl⟩

/-! ### frames one behind the other -/
def frs (bl : List (List UInt8)) (k : Nat) : List UInt8 := (bl.take k).flatMap encFrame
theorem frs_succ {bl : List (List UInt8)} {k : Nat} (h : k < bl.length) : frs bl (k + 1) = frs bl k ++ encFrame bl[k] := by
  unfold frs
  rw [List.take_succ_eq_append_getElem h, List.flatMap_append]
  simp
theorem encFrame_max {s : List UInt8} (h : s.length ≤ 65536) : (encFrame s).length ≤ 65546 := by
  rw [encFrame_len]
  have := enc_len6 (n := s.length) (by omega)
  omega
theorem frs_len {bl : List (List UInt8)} : ∀ {k : Nat}, (∀ b ∈ bl.take k, b.length ≤ 65536) → (frs bl k).length ≤ k * 65546
  | 0, _ => by simp [frs]
  | k + 1, h => by
    by_cases hk : k < bl.length
    · rw [frs_succ hk, List.length_append]
      have h1 := frs_len (bl := bl) (k := k) (fun b hb => h b (by rw [List.take_succ_eq_append_getElem hk]; exact List.mem_append.2 (.inl hb)))
      have h2 := encFrame_max (h bl[k] (by rw [List.take_succ_eq_append_getElem hk]; exact List.mem_append.2 (.inr (List.mem_singleton.2 rfl))))
      omega
    · have e : frs bl (k + 1) = frs bl k := by
        unfold frs
        rw [List.take_of_length_le (by omega), List.take_of_length_le (by omega)]
      rw [e]
      have h1 := frs_len (bl := bl) (k := k) (fun b hb => h b (by rw [List.take_of_length_le (by omega)] at hb ⊢; exact hb))
      exact Nat.le_trans h1 (Nat.mul_le_mul_right _ (Nat.le_succ _))
def endsOf (bl : List (List UInt8)) (k : Nat) : List Nat := (List.range k).map fun j => (frs bl (j + 1)).length
theorem endsOf_len (bl : List (List UInt8)) (k : Nat) : (endsOf bl k).length = k := by simp [endsOf]
theorem endsOf_succ (bl : List (List UInt8)) (k : Nat) : endsOf bl (k + 1) = endsOf bl k ++ [(frs bl (k + 1)).length] := by
  simp [endsOf, List.range_succ]
theorem endsOf_at {bl : List (List UInt8)} {k j : Nat} (h : j < (endsOf bl k).length) : (endsOf bl k)[j] = (frs bl (j + 1)).length := by simp [endsOf]

def cutRest (bl : List (List UInt8)) (K i : Nat) : List UInt8 := ((frs bl bl.length).take K).drop (frs bl i).length
theorem frs_split (bl : List (List UInt8)) (i : Nat) : frs bl bl.length = frs bl i ++ (bl.drop i).flatMap encFrame := by
  unfold frs
  rw [List.take_of_length_le (Nat.le_refl _), ← List.flatMap_append, List.take_append_drop]
theorem cutRest_eq {bl : List (List UInt8)} {K i : Nat} (h : (frs bl i).length ≤ K) : cutRest bl K i = ((bl.drop i).flatMap encFrame).take (K - (frs bl i).length) := by
  unfold cutRest
  rw [frs_split bl i, List.take_append, List.take_of_length_le h, List.drop_left]
theorem cut_more {bl : List (List UInt8)} {K i : Nat} (hi : i < bl.length) (hs : bl[i].length ≤ 65536) (h : (frs bl (i + 1)).length ≤ K) : unF (cutRest bl K i) = (bl[i], cutRest bl K (i + 1), 0) := by
  have e := frs_succ hi
  have hl : (frs bl (i + 1)).length = (frs bl i).length + (encFrame bl[i]).length := by rw [e, List.length_append]
  rw [cutRest_eq h, cutRest_eq (by omega), List.drop_eq_getElem_cons hi, List.flatMap_cons, List.take_append, List.take_of_length_le (by omega), unF_whole hs]
  congr 3
  omega
theorem cut_end {bl : List (List UInt8)} {K i : Nat} (hi : i < bl.length) (hs : bl[i].length ≤ 65536) (h0 : (frs bl i).length ≤ K) (h : K < (frs bl (i + 1)).length) : unF (cutRest bl K i) = ([], [], 3) := by
  have e := frs_succ hi
  have hl : (frs bl (i + 1)).length = (frs bl i).length + (encFrame bl[i]).length := by rw [e, List.length_append]
  rw [cutRest_eq h0, List.drop_eq_getElem_cons hi, List.flatMap_cons, List.take_append_of_le_length (by omega)]
  exact unF_cut hs (by omega)
theorem cut_nil {bl : List (List UInt8)} {K : Nat} (h0 : (frs bl bl.length).length ≤ K) : unF (cutRest bl K bl.length) = ([], [], 3) := by
  rw [cutRest_eq h0, List.drop_of_length_le (Nat.le_refl _), List.flatMap_nil, List.take_nil]
  exact unF_err rfl
theorem cutRest_zero (bl : List (List UInt8)) (K : Nat) : cutRest bl K 0 = (frs bl bl.length).take K := by simp [cutRest, frs]
theorem cutRest_le (bl : List (List UInt8)) (K i : Nat) : (cutRest bl K i).length ≤ (frs bl bl.length).length := by simp [cutRest]; omega

/-! ### a frame whose bytes are turned -/
structure Turned (body b : List UInt8) (f j : Nat) : Prop where
  len : b.length = body.length
  same : ∀ i, i < f ∨ f + j ≤ i → b[i]? = body[i]?

theorem Turned.start (body : List UInt8) (f : Nat) : Turned body body f 0 := ⟨rfl, fun _ _ => rfl⟩
theorem Turned.step {body b : List UInt8} {f j : Nat} (h : Turned body b f j) (hi : f + j < body.length) (m : UInt8) :
    Turned body (b.set (f + j) (body[f + j] ^^^ m)) f (j + 1) ∧ (b.set (f + j) (body[f + j] ^^^ m) ≠ body ↔ b ≠ body ∨ m ≠ 0) := by
  have hs := h.same (f + j) (.inr (Nat.le_refl _))
  have hst := turned_step (m := m) hi hs
  refine ⟨⟨by simpa using h.len, fun i hi2 => ?_⟩, ?_⟩
  · rw [List.getElem?_set_ne (by omega)]
    exact h.same i (by omega)
  · constructor
    · intro hne
      by_cases hb : b = body
      · right
        intro hm
        exact hne ((hst.2 hm).trans hb)
      · exact .inl hb
    · intro hor e
      by_cases hb : b = body
      · rcases hor with h1 | h1
        · exact h1 hb
        · exact h1 (hst.1 (e.trans hb.symm))
      · apply hb
        apply List.ext_getElem?
        intro i
        by_cases hif : i = f + j
        · rw [hif]; exact hs
        · rw [← e, List.getElem?_set_ne (by omega)]

/-- The bytes of the turned frame. -/
def turnT (body b : List UInt8) : List UInt8 := encText b ++ le4 (crc body)
theorem turnT_eq {body b : List UInt8} (h : b.length = body.length) : turnT body b = enc body.length ++ (b ++ le4 (crc body)) := by
  unfold turnT encText
  rw [h, List.append_assoc]
theorem turnT_self (body : List UInt8) : turnT body body = encFrame body := rfl
theorem turnT_len {body b : List UInt8} (h : b.length = body.length) : (turnT body b).length = (encFrame body).length := by
  simp [turnT, encFrame, encText, h]
theorem turnT_at {body b : List UInt8} {i : Nat} (h : b.length = body.length) (hi : i < body.length) : (turnT body b)[(enc body.length).length + i]? = b[i]? := by
  rw [turnT_eq h, List.getElem?_append_right (by omega), Nat.add_sub_cancel_left, List.getElem?_append_left (by omega)]
theorem turnT_set {body b : List UInt8} {i : Nat} (h : b.length = body.length) (hi : i < body.length) (x : UInt8) : (turnT body b).set ((enc body.length).length + i) x = turnT body (b.set i x) := by
  rw [turnT_eq h, turnT_eq (by simpa using h), List.set_append_right _ _ (by omega), Nat.add_sub_cancel_left, List.set_append_left _ _ (by omega)]
theorem turn_end {body b : List UInt8} {f j : Nat} (h : Turned body b f j) (hj : j ≤ 4 ) (hl : body.length ≤ 65536) : (unF (turnT body b)).2.2 = if b = body then 0 else 2 := by
  by_cases he : b = body
  · rw [if_pos he, he, turnT_self]
    have := unF_whole hl []
    rw [List.append_nil] at this
    rw [this]
  · rw [if_neg he]
    have hc := crc_window (a := b) (b := body) (f := f) h.len (fun i hi => h.same i (by omega)) he
    have := unF_turned hl h.len hc []
    rw [List.append_nil] at this
    unfold turnT
    rw [this]

/-! ### a row of bytes that was made of a string -/
structure ByteRow (w : World) (g : Nat) (T : List UInt8) : Prop where
  cell : ∀ j, (hj : j < T.length) → w.cell? ⟨g, j, none⟩ = some (.int .u8 (T[j].toNat : Nat))
  free : ∀ j, w.frozen? ⟨g, j, none⟩ = false ∨ T.length ≤ j

theorem ByteRow.set {w : World} {g : Nat} {T : List UInt8} (h : ByteRow w g T) (i : Nat) (x : UInt8) (hi : i < T.length) {y : Int} (hy : y = x.toNat) : ByteRow (w.setCell ⟨g, i, none⟩ (.int .u8 y)) g (T.set i x) := by
  subst hy
  refine ⟨fun j hj => ?_, fun j => ?_⟩
  · have hj' : j < T.length := by simpa using hj
    by_cases hij : i = j
    · subst hij
      rw [World.cell?_setCell_same _ _ _ (h.cell i hi)]
      simp
    · rw [World.cell?_setCell_other _ _ _ _ (fun e => hij (by cases e; rfl)), h.cell j hj', List.getElem_set_ne hij]
  · rw [World.frozen?_setCell, List.length_set]
    exact h.free j
theorem ByteRow.kept {w w' : World} {g : Nat} {T : List UInt8} (h : ByteRow w g T) (hk : Kept Nil w w') (hne : T ≠ []) : ByteRow w' g T := by
  have h0 := h.cell 0 (List.length_pos_iff.2 hne)
  have hlt : g < w.heap.size := cell_lt h0
  have hb : w'.heap[g]? = w.heap[g]? := by rw [hk.block g _ (Array.getElem?_eq_getElem hlt) (fun x => x.elim), Array.getElem?_eq_getElem hlt]
  exact ⟨fun j hj => (World.cell?_of_block (w := w) (a := ⟨g, j, none⟩) hb).trans (h.cell j hj), fun j => by rw [World.frozen?_of_block (w := w) (a := ⟨g, j, none⟩) hb]; exact h.free j⟩
theorem ByteRow.new (w : World) (l : List UInt8) (cap : Nat) : ByteRow (w.alloc (.cells (bytesRow (bs l) cap) 5 ((bytesRow (bs l) cap).size, (bytesRow (bs l) cap).size + 1))).drew w.heap.size l := by
  refine ⟨fun j hj => ?_, fun j => ?_⟩
  · rw [sum_cell w l cap j _ hj]
    simp [List.getD_eq_getElem?_getD, hj]
  · by_cases hj : l.length ≤ j
    · exact .inr hj
    · left
      have hb : (w.alloc (.cells (bytesRow (bs l) cap) 5 ((bytesRow (bs l) cap).size, (bytesRow (bs l) cap).size + 1))).drew.heap[w.heap.size]? = some (.cells (bytesRow (bs l) cap) 5 ((bytesRow (bs l) cap).size, (bytesRow (bs l) cap).size + 1)) := blk_new w _
      have hs : l.length ≤ (bytesRow (bs l) cap).size := by simp [bytesRow, bs]
      unfold World.frozen?
      rw [hb]
      simp
      omega
theorem ByteRow.conv {w : World} {g : Nat} {T : List UInt8} (h : ByteRow w g T) (cap : Nat) :
    (convert 81 9 (.slice (some ⟨g, 0, none⟩) T.length cap)).run Try.prog w = .ok (.string (bs T)) w := by
  refine run_convert_bytes_back w 81 9 5 ⟨g, 0, none⟩ cap T Try.underlying81 Try.underlying5 Try.underlying9 ?_
  intro j hj
  have e : (⟨g, 0, none⟩ : Addr).add j = ⟨g, j, none⟩ := by unfold Addr.add; split <;> simp_all
  rw [e]
  exact h.cell j hj
theorem ByteRow.convAs {w : World} {g : Nat} {T : List UInt8} (h : ByteRow w g T) (cap : Nat) {N : Nat} (hN : N = T.length) :
    (convert 81 9 (.slice (some ⟨g, 0, none⟩) N cap)).run Try.prog w = .ok (.string (bs T)) w := by
  subst hN
  exact h.conv cap
theorem xor_byte (x : UInt8) (z : Int) : bits .xor .u8 (x.toNat : Int) (z % 256) = ((x ^^^ UInt8.ofNat (z % 256).toNat).toNat : Nat) := by
  have h1 := x.toNat_lt
  have h2 : (z % 256).toNat < 256 := by omega
  have e : z % 256 = ((z % 256).toNat : Nat) := by omega
  have := u8_xor_nat x.toNat (z % 256).toNat h1 h2
  rw [← e] at this
  rw [this, UInt8.toNat_xor, ofNat_toNat h2]
theorem byte_zero (z : Int) : UInt8.ofNat (z % 256).toNat = 0 ↔ z % 256 = 0 := by
  have h2 : (z % 256).toNat < 256 := by omega
  constructor
  · intro h
    have := congrArg UInt8.toNat h
    rw [ofNat_toNat h2] at this
    have e0 : (0 : UInt8).toNat = 0 := rfl
    omega
  · intro h
    rw [h]
    rfl

end Go.Proofs.Ytblmmbghnkplkaa
