/-
  Joined: WTorn2, WKeep1, WStepA, WKeep2, WBkP.
-/
import Derived.Test.YtijklginabipgaaWTorn1
import Derived.Laws.IdiomStrings
import Derived.Test.YtijklginabipgaaWOlc
import Derived.Test.YtijklginabipgaaWOld
import Derived.Deep.RegionLaw
import Derived.Test.YtijklginabipgaaWOly
import Derived.Test.YtijklginabipgaaWOle
/-
  Frames one behind the other, cut anywhere; a frame of which bytes are turned; one of n by any number (pick).
-/
namespace Go.Proofs.Ytijklginabipgaa
open Go.RowKit

theorem pick_val (c n : Int) (hn : 0 < n) : c % n = if c.tmod n < 0 then c.tmod n + n else c.tmod n := by
  have h1 := Int.emod_nonneg c (show n ≠ 0 by omega)
  have h2 := Int.emod_lt_of_pos c hn
  have h3 := Int.tmod_eq_emod (a := c) (b := n)
  have h4 : (n.natAbs : Int) = n := by omega
  split at h3 <;> split <;> omega

set_option maxRecDepth 100000 in
theorem pick_any (c n : Int) (w : World) (hn : 0 < n) (hn2 : n ≤ 9223372036854775807) :
    Calls Try.prog 33 #[.int .i64 c, .int .i64 n] w fun e w' => e = .returned (.int .i64 (c % n)) ∧ w' = w := by
  have hv := pick_val c n hn
  have h1 := Int.emod_nonneg c (show n ≠ 0 by omega)
  have h2 := Int.emod_lt_of_pos c hn
  have hne : (n == 0) = false := by simp; omega
  by_cases hneg : c.tmod n < 0
  · rw [if_pos hneg] at hv
    have HV : Hid (c % n = c.tmod n + n) := hv
    rw [hv] at h1 h2
    clear hv
    go_enter Try.func33, Try.ntmps33
    go_wp2
    go_ret
    rw [HV.out]
    exact ⟨rfl, rfl⟩
  · rw [if_neg hneg] at hv
    have HV : Hid (c % n = c.tmod n) := hv
    rw [hv] at h1 h2
    clear hv
    go_enter Try.func33, Try.ntmps33
    go_wp2
    go_ret
    rw [HV.out]
    exact ⟨rfl, rfl⟩

/-! ### frames one behind the other -/
def frs (bl : List (List UInt8)) (k : Nat) : List UInt8 := (bl.take k).flatMap encFrame
theorem frs_succ {bl : List (List UInt8)} {k : Nat} (h : k < bl.length) : frs bl (k + 1) = frs bl k ++ encFrame bl[k] := by
  unfold frs
  rw [List.take_succ_eq_append_getElem h, List.flatMap_append]
  simp
theorem encFrame_max {s : List UInt8} (h : s.length ≤ 65536) : (encFrame s).length ≤ 65546 := by
  rw [encFrame_len]
  have := enc_len6 (n := s.length) (by omega)
  omega
theorem frs_len {bl : List (List UInt8)} : ∀ {k : Nat}, (∀ b ∈ bl.take k, b.length ≤ 65536) → (frs bl k).length ≤ k * 65546
  | 0, _ => by simp [frs]
  | k + 1, h => by
    by_cases hk : k < bl.length
    · rw [frs_succ hk, List.length_append]
      have h1 := frs_len (bl := bl) (k := k) (fun b hb => h b (by rw [List.take_succ_eq_append_getElem hk]; exact List.mem_append.2 (.inl hb)))
      have h2 := encFrame_max (h bl[k] (by rw [List.take_succ_eq_append_getElem hk]; exact List.mem_append.2 (.inr (List.mem_singleton.2 rfl))))
      omega
    · have e : frs bl (k + 1) = frs bl k := by
        unfold frs
        rw [List.take_of_length_le (by omega), List.take_of_length_le (by omega)]
      rw [e]
      have h1 := frs_len (bl := bl) (k := k) (fun b hb => h b (by rw [List.take_of_length_le (by omega)] at hb ⊢; exact hb))
      exact Nat.le_trans h1 (Nat.mul_le_mul_right _ (Nat.le_succ _))
def endsOf (bl : List (List UInt8)) (k : Nat) : List Nat := (List.range k).map fun j => (frs bl (j + 1)).length
theorem endsOf_len (bl : List (List UInt8)) (k : Nat) : (endsOf bl k).length = k := by simp [endsOf]
theorem endsOf_succ (bl : List (List UInt8)) (k : Nat) : endsOf bl (k + 1) = endsOf bl k ++ [(frs bl (k + 1)).length] := by
  simp [endsOf, List.range_succ]
theorem endsOf_at {bl : List (List UInt8)} {k j : Nat} (h : j < (endsOf bl k).length) : (endsOf bl k)[j] = (frs bl (j + 1)).length := by simp [endsOf]

def cutRest (bl : List (List UInt8)) (K i : Nat) : List UInt8 := ((frs bl bl.length).take K).drop (frs bl i).length
theorem frs_split (bl : List (List UInt8)) (i : Nat) : frs bl bl.length = frs bl i ++ (bl.drop i).flatMap encFrame := by
  unfold frs
  rw [List.take_of_length_le (Nat.le_refl _), ← List.flatMap_append, List.take_append_drop]
theorem cutRest_eq {bl : List (List UInt8)} {K i : Nat} (h : (frs bl i).length ≤ K) : cutRest bl K i = ((bl.drop i).flatMap encFrame).take (K - (frs bl i).length) := by
  unfold cutRest
  rw [frs_split bl i, List.take_append, List.take_of_length_le h, List.drop_left]
theorem cut_more {bl : List (List UInt8)} {K i : Nat} (hi : i < bl.length) (hs : bl[i].length ≤ 65536) (h : (frs bl (i + 1)).length ≤ K) : unF (cutRest bl K i) = (bl[i], cutRest bl K (i + 1), 0) := by
  have e := frs_succ hi
  have hl : (frs bl (i + 1)).length = (frs bl i).length + (encFrame bl[i]).length := by rw [e, List.length_append]
  rw [cutRest_eq h, cutRest_eq (by omega), List.drop_eq_getElem_cons hi, List.flatMap_cons, List.take_append, List.take_of_length_le (by omega), unF_whole hs]
  congr 3
  omega
theorem cut_end {bl : List (List UInt8)} {K i : Nat} (hi : i < bl.length) (hs : bl[i].length ≤ 65536) (h0 : (frs bl i).length ≤ K) (h : K < (frs bl (i + 1)).length) : unF (cutRest bl K i) = ([], [], 3) := by
  have e := frs_succ hi
  have hl : (frs bl (i + 1)).length = (frs bl i).length + (encFrame bl[i]).length := by rw [e, List.length_append]
  rw [cutRest_eq h0, List.drop_eq_getElem_cons hi, List.flatMap_cons, List.take_append_of_le_length (by omega)]
  exact unF_cut hs (by omega)
theorem cut_nil {bl : List (List UInt8)} {K : Nat} (h0 : (frs bl bl.length).length ≤ K) : unF (cutRest bl K bl.length) = ([], [], 3) := by
  rw [cutRest_eq h0, List.drop_of_length_le (Nat.le_refl _), List.flatMap_nil, List.take_nil]
  exact unF_err rfl
theorem cutRest_zero (bl : List (List UInt8)) (K : Nat) : cutRest bl K 0 = (frs bl bl.length).take K := by simp [cutRest, frs]
theorem cutRest_le (bl : List (List UInt8)) (K i : Nat) : (cutRest bl K i).length ≤ (frs bl bl.length).length := by simp [cutRest]; omega

/-! ### a frame whose bytes are turned -/
structure Turned (body b : List UInt8) (f j : Nat) : Prop where
  len : b.length = body.length
  same : ∀ i, i < f ∨ f + j ≤ i → b[i]? = body[i]?

theorem Turned.start (body : List UInt8) (f : Nat) : Turned body body f 0 := ⟨rfl, fun _ _ => rfl⟩
theorem Turned.step {body b : List UInt8} {f j : Nat} (h : Turned body b f j) (hi : f + j < body.length) (m : UInt8) :
    Turned body (b.set (f + j) (body[f + j] ^^^ m)) f (j + 1) ∧ (b.set (f + j) (body[f + j] ^^^ m) ≠ body ↔ b ≠ body ∨ m ≠ 0) := by
  have hs := h.same (f + j) (.inr (Nat.le_refl _))
  have hst := turned_step (m := m) hi hs
  refine ⟨⟨by simpa using h.len, fun i hi2 => ?_⟩, ?_⟩
  · rw [List.getElem?_set_ne (by omega)]
    exact h.same i (by omega)
  · constructor
    · intro hne
      by_cases hb : b = body
      · right
        intro hm
        exact hne ((hst.2 hm).trans hb)
      · exact .inl hb
    · intro hor e
      by_cases hb : b = body
      · rcases hor with h1 | h1
        · exact h1 hb
        · exact h1 (hst.1 (e.trans hb.symm))
      · apply hb
        apply List.ext_getElem?
        intro i
        by_cases hif : i = f + j
        · rw [hif]; exact hs
        · rw [← e, List.getElem?_set_ne (by omega)]

/-- The bytes of the turned frame. -/
def turnT (body b : List UInt8) : List UInt8 := encText b ++ le4 (crc body)
theorem turnT_eq {body b : List UInt8} (h : b.length = body.length) : turnT body b = enc body.length ++ (b ++ le4 (crc body)) := by
  unfold turnT encText
  rw [h, List.append_assoc]
theorem turnT_self (body : List UInt8) : turnT body body = encFrame body := rfl
theorem turnT_len {body b : List UInt8} (h : b.length = body.length) : (turnT body b).length = (encFrame body).length := by
  simp [turnT, encFrame, encText, h]
theorem turnT_at {body b : List UInt8} {i : Nat} (h : b.length = body.length) (hi : i < body.length) : (turnT body b)[(enc body.length).length + i]? = b[i]? := by
  rw [turnT_eq h, List.getElem?_append_right (by omega), Nat.add_sub_cancel_left, List.getElem?_append_left (by omega)]
theorem turnT_set {body b : List UInt8} {i : Nat} (h : b.length = body.length) (hi : i < body.length) (x : UInt8) : (turnT body b).set ((enc body.length).length + i) x = turnT body (b.set i x) := by
  rw [turnT_eq h, turnT_eq (by simpa using h), List.set_append_right _ _ (by omega), Nat.add_sub_cancel_left, List.set_append_left _ _ (by omega)]
theorem turn_end {body b : List UInt8} {f j : Nat} (h : Turned body b f j) (hj : j ≤ 4 ) (hl : body.length ≤ 65536) : (unF (turnT body b)).2.2 = if b = body then 0 else 2 := by
  by_cases he : b = body
  · rw [if_pos he, he, turnT_self]
    have := unF_whole hl []
    rw [List.append_nil] at this
    rw [this]
  · rw [if_neg he]
    have hc := crc_window (a := b) (b := body) (f := f) h.len (fun i hi => h.same i (by omega)) he
    have := unF_turned hl h.len hc []
    rw [List.append_nil] at this
    unfold turnT
    rw [this]

/-! ### a row of bytes that was made of a string -/
structure ByteRow (w : World) (g : Nat) (T : List UInt8) : Prop where
  cell : ∀ j, (hj : j < T.length) → w.cell? ⟨g, j, none⟩ = some (.int .u8 (T[j].toNat : Nat))
  free : ∀ j, w.frozen? ⟨g, j, none⟩ = false ∨ T.length ≤ j

theorem ByteRow.set {w : World} {g : Nat} {T : List UInt8} (h : ByteRow w g T) (i : Nat) (x : UInt8) (hi : i < T.length) {y : Int} (hy : y = x.toNat) : ByteRow (w.setCell ⟨g, i, none⟩ (.int .u8 y)) g (T.set i x) := by
  subst hy
  refine ⟨fun j hj => ?_, fun j => ?_⟩
  · have hj' : j < T.length := by simpa using hj
    by_cases hij : i = j
    · subst hij
      rw [World.cell?_setCell_same _ _ _ (h.cell i hi)]
      simp
    · rw [World.cell?_setCell_other _ _ _ _ (fun e => hij (by cases e; rfl)), h.cell j hj', List.getElem_set_ne hij]
  · rw [World.frozen?_setCell, List.length_set]
    exact h.free j
theorem ByteRow.kept {w w' : World} {g : Nat} {T : List UInt8} (h : ByteRow w g T) (hk : Kept Nil w w') (hne : T ≠ []) : ByteRow w' g T := by
  have h0 := h.cell 0 (List.length_pos_iff.2 hne)
  have hlt : g < w.heap.size := cell_lt h0
  have hb : w'.heap[g]? = w.heap[g]? := by rw [hk.block g _ (Array.getElem?_eq_getElem hlt) (fun x => x.elim), Array.getElem?_eq_getElem hlt]
  exact ⟨fun j hj => (World.cell?_of_block (w := w) (a := ⟨g, j, none⟩) hb).trans (h.cell j hj), fun j => by rw [World.frozen?_of_block (w := w) (a := ⟨g, j, none⟩) hb]; exact h.free j⟩
theorem ByteRow.new (w : World) (l : List UInt8) (cap : Nat) : ByteRow (w.alloc (.cells (bytesRow (bs l) cap) 5 ((bytesRow (bs l) cap).size, (bytesRow (bs l) cap).size + 1))).drew w.heap.size l := by
  refine ⟨fun j hj => ?_, fun j => ?_⟩
  · rw [sum_cell w l cap j _ hj]
    simp [List.getD_eq_getElem?_getD, hj]
  · by_cases hj : l.length ≤ j
    · exact .inr hj
    · left
      have hb : (w.alloc (.cells (bytesRow (bs l) cap) 5 ((bytesRow (bs l) cap).size, (bytesRow (bs l) cap).size + 1))).drew.heap[w.heap.size]? = some (.cells (bytesRow (bs l) cap) 5 ((bytesRow (bs l) cap).size, (bytesRow (bs l) cap).size + 1)) := blk_new w _
      have hs : l.length ≤ (bytesRow (bs l) cap).size := by simp [bytesRow, bs]
      unfold World.frozen?
      rw [hb]
      simp
      omega
theorem ByteRow.conv {w : World} {g : Nat} {T : List UInt8} (h : ByteRow w g T) (cap : Nat) :
    (convert 180 9 (.slice (some ⟨g, 0, none⟩) T.length cap)).run Try.prog w = .ok (.string (bs T)) w := by
  refine run_convert_bytes_back w 180 9 5 ⟨g, 0, none⟩ cap T Try.underlying180 Try.underlying5 Try.underlying9 ?_
  intro j hj
  have e : (⟨g, 0, none⟩ : Addr).add j = ⟨g, j, none⟩ := by unfold Addr.add; split <;> simp_all
  rw [e]
  exact h.cell j hj
theorem ByteRow.convAs {w : World} {g : Nat} {T : List UInt8} (h : ByteRow w g T) (cap : Nat) {N : Nat} (hN : N = T.length) :
    (convert 180 9 (.slice (some ⟨g, 0, none⟩) N cap)).run Try.prog w = .ok (.string (bs T)) w := by
  subst hN
  exact h.conv cap
theorem xor_byte (x : UInt8) (z : Int) : bits .xor .u8 (x.toNat : Int) (z % 256) = ((x ^^^ UInt8.ofNat (z % 256).toNat).toNat : Nat) := by
  have h1 := x.toNat_lt
  have h2 : (z % 256).toNat < 256 := by omega
  have e : z % 256 = ((z % 256).toNat : Nat) := by omega
  have := u8_xor_nat x.toNat (z % 256).toNat h1 h2
  rw [← e] at this
  rw [this, UInt8.toNat_xor, ofNat_toNat h2]
theorem byte_zero (z : Int) : UInt8.ofNat (z % 256).toNat = 0 ↔ z % 256 = 0 := by
  have h2 : (z % 256).toNat < 256 := by omega
  constructor
  · intro h
    have := congrArg UInt8.toNat h
    rw [ofNat_toNat h2] at this
    have e0 : (0 : UInt8).toNat = 0 := rfl
    omega
  · intro h
    rw [h]
    rfl

end Go.Proofs.Ytijklginabipgaa

/-
  What the law makes of bits: nodes, and a configuration of them: rising lists of nodes, the learners none of the voters.
-/
namespace Go.Proofs.Ytijklginabipgaa
open Go.RowKit

/-- Nodes, rising. -/
structure Nodes (ns : List Nat) : Prop where
  up : ns.Pairwise (· < ·)
  le : ∀ n ∈ ns, 1 ≤ n ∧ n ≤ 9
theorem rise_of {ns : List Nat} : ∀ (p : Int), ns.Pairwise (· < ·) → (∀ n ∈ ns, 1 ≤ n ∧ n ≤ 9 ∧ p < n) → rise p (intsOf ns) = true := by
  induction ns with
  | nil => intro p _ _; rfl
  | cons n ns ih =>
    intro p hp hn
    have h1 := hn n (by simp)
    have h2 := List.pairwise_cons.1 hp
    show (isNd (n : Int) && decide (p < (n : Int)) && rise (n : Int) (intsOf ns)) = true
    have h3 := ih (n : Int) h2.2 (fun m hm => by
      have a := h2.1 m hm
      have b := hn m (by simp [hm])
      exact ⟨b.1, b.2.1, by omega⟩)
    rw [h3, Bool.and_true, Bool.and_eq_true]
    refine ⟨?_, decide_eq_true h1.2.2⟩
    unfold isNd
    rw [decide_eq_true (by omega), decide_eq_true (by omega)]
    rfl
theorem Nodes.rise {ns : List Nat} (h : Nodes ns) : rise 0 (intsOf ns) = true := rise_of 0 h.up (fun n hn => by have := h.le n hn; omega)
theorem Nodes.snoc {ns : List Nat} {k : Nat} (h : Nodes ns) (hk : ∀ n ∈ ns, n < k) (h1 : 1 ≤ k) (h9 : k ≤ 9) : Nodes (ns ++ [k]) := by
  refine ⟨List.pairwise_append.2 ⟨h.up, List.pairwise_singleton _ _, fun a ha b hb => ?_⟩, fun n hn => ?_⟩
  · rw [List.mem_singleton.1 hb]; exact hk a ha
  · rcases List.mem_append.1 hn with hn | hn
    · exact h.le n hn
    · rw [List.mem_singleton.1 hn]; omega
theorem Nodes.nil : Nodes [] := ⟨List.Pairwise.nil, fun n hn => by simp at hn⟩
theorem Nodes.few {ns : List Nat} (h : Nodes ns) : ns.length ≤ 9 := by
  have := rise_few h.rise
  simpa [intsOf_len] using this.2.2

/-- What is handed out: nodes in a row of their own. -/
def NodesPost (w : World) (e : Ending) (w' : World) : Prop := ∃ ns ao c, e = .returned (.slice ao ns.length c) ∧ OwnNats w.heap.size w' ao c ns ∧ Nodes ns ∧ Kept Nil w w'

set_option maxRecDepth 100000 in
set_option maxHeartbeats 2000000 in
theorem nodes_any (z : Int) (w : World) : Calls Try.prog 34 #[.int .i64 z] w (NodesPost w) := by
  obtain ⟨i0, hi, hz0, hz1, hz2⟩ := info_parts Try.infoInt
  go_enter Try.func34, Try.ntmps34
  go_wp2
  go_loopw [3, 4] (fun v i wr => ∃ k : Nat, ∃ ns : List Nat, ∃ ao c, 1 ≤ k ∧ k ≤ 10 ∧ i = .int .i64 k ∧ v = .slice ao ns.length c ∧ Hid (OwnNats w.heap.size wr ao c ns) ∧ Hid (Nodes ns ∧ ∀ n ∈ ns, n < k) ∧ Hid (Kept Nil w wr)) (fun _ i _ => 10 - (intOf i).toNat)
  case atStart => exact ⟨1, [], none, 0, by omega, by omega, rfl, rfl, World.ownsRow_nil _ _ _ _, ⟨Nodes.nil, fun n hn => by simp at hn⟩, Kept.refl _ _⟩
  case round =>
    obtain ⟨k, ns, ao, c, hk1, hk10, rfl, rfl, HO, HN, HK⟩ := hrel
    by_cases h9 : k ≤ 9
    · have HLL : Hid (ns.length + 1 ≤ maxLen ∧ (ns.length + 1) * 8 ≤ 140737488355328) := by
        have := HN.out.1.few
        constructor
        · unfold maxLen; omega
        · omega
      have ho : wr.ownsRow w.heap.size 3 1 (.slice ao ns.length c) ns.length (natCells ns) := HO.out
      have HM : Hid (∀ n ∈ ns, n < k + 1) := fun n hn => by have := HN.out.2 n hn; omega
      have HS : Hid (Nodes (ns ++ [k])) := HN.out.1.snoc HN.out.2 hk1 h9
      go_wp2_with fail
      refine (pick_any _ 2 _ (by decide) (by decide)).mono ?_
      rintro e w1 ⟨rfl, rfl⟩
      go_wp2_with (first | (at_builtin; go_must (refine wpList_append_src _ rfl _ _ 22 22 rfl w.heap.size 3 i0 (.int .i64 0) 1 8 Try.underlying22 hi hz0 hz1 hz2 rfl _ _ _ rfl (ho.alloc _) (.slice (some ⟨w1.heap.size, 0, none⟩) 1 1) 1 [.int .i64 k] rfl (src_int _) HLL.out.1 HLL.out.2 (le_alloc HK.out.size _) ?_); intro ao' c' w2 ho' hg'; have HK2 : Hid (Kept Nil w w2) := (HK.out.alloc _).grown hg' (own_row ho); clear hg'))
      · go_roundw
        case rel => exact ⟨k + 1, ns ++ [k], ao', c', by omega, by omega, by go_num, by rw [List.length_append]; rfl, OwnNats.push ho', ⟨HS.out, fun n hn => by rcases List.mem_append.1 hn with hn | hn; exact HM.out n hn; rw [List.mem_singleton.1 hn]; omega⟩, HK2.out⟩
        case measure => simp [intOf]; omega
      · go_roundw
        case rel => exact ⟨k + 1, ns, ao, c, by omega, by omega, by go_num, rfl, HO.out, ⟨HN.out.1, HM.out⟩, HK.out⟩
        case measure => simp [intOf]; omega
    · go_wp2
      go_ret
      exact ⟨ns, ao, c, rfl, HO.out, HN.out.1, HK.out⟩

set_option maxRecDepth 100000 in
set_option maxHeartbeats 1000000 in
theorem keepHas_any (B cap : Nat) (ao : Option Addr) (zs : List Int) (z : Int) (w : World) (h : IntRow B w ao zs) (hl : (zs.length : Int) ≤ 9223372036854775807) :
    Calls Try.prog 37 #[.slice ao zs.length cap, .int .i64 z] w fun e w' => e = .returned (.bool (hasZ zs z)) ∧ w' = w := by
  have HR : Hid (IntRow B w ao zs) := h
  have HP : Hid (decide (0 ≤ pos z 0 zs) = hasZ zs z) := rfl
  clear h
  go_enter Try.func37, Try.ntmps37
  go_wp2
  go_loop [5] (fun i => ∃ k : Nat, k ≤ zs.length ∧ i = .int .i64 k ∧ Hid (pos z 0 zs = pos z k (zs.drop k))) (fun i => zs.length - (intOf i).toNat)
  case atStart => exact ⟨0, Nat.zero_le _, rfl, rfl⟩
  case round =>
    obtain ⟨k, hk, rfl, HI⟩ := hrel
    by_cases hlt : k < zs.length
    · obtain ⟨a, rfl, _, hcell⟩ := HR.out k hlt
      by_cases hz : zs[k] = z
      · have HF : Hid (hasZ zs z = true) := by show hasZ zs z = true; rw [← HP.out, HI.out, (pos_at hlt).trans (if_pos hz)]; simp
        rw [hz] at hcell
        clear hz HI HP
        go_wp2
        go_ret
        rw [HF.out]
        exact ⟨rfl, rfl⟩
      · have HF : Hid (pos z 0 zs = pos z (k + 1) (zs.drop (k + 1))) := HI.out.trans ((pos_at hlt).trans (if_neg hz))
        have hz2 : (zs[k] == z) = false := by simp; exact hz
        generalize zs[k] = y at *
        clear hz HI
        go_wp2
        go_round
        case rel => exact ⟨k + 1, by omega, by go_num, HF⟩
        case measure => simp [intOf]; omega
    · have HF : Hid (hasZ zs z = false) := by show hasZ zs z = false; rw [← HP.out, HI.out, List.drop_of_length_le (by omega)]; rfl
      go_wp2
      go_ret
      rw [HF.out]
      exact ⟨rfl, rfl⟩

end Go.Proofs.Ytijklginabipgaa

/-
  'append' onto a row of the call's own, as a step within a region that draws its order. A law on the model, over any program.
-/
namespace Go.Proofs.Ytijklginabipgaa
open Go.RowKit
variable {P : Program} (w : World)

theorem step_append_src {ops : Array Oper} {o : Oper} {a : Act} {K : Act → World → Prop} {Q : Exit → Act → World → Prop} {E : Prop} (hgd : o.guard = none) (s xo : Operand) (t tx : TypeId)
    (ho : o.op = .call { callee := .builtin .append, args := #[s, xo], argTypes := #[t, tx] })
    (base : Nat) (e : TypeId) (i : TypeInfo) (z : Value) (size bytes : Nat) (ht : P.underlying t = some (.slice e)) (hi : P.info? e = some i) (hz : i.zero = some z)
    (hsize : i.size = size) (hby : i.bytes = bytes) (hzs : z.cells.size = size)
    (v : Value) (n : Nat) (xs : List Value) (hv : a.eval s = v) (hown : w.ownsRow base e size v n xs) (x : Value) (m : Nat) (news : List Value) (hx : a.eval xo = x) (hs : Src P size tx x m news w)
    (h63 : n + m ≤ maxLen) (hbytes : (n + m) * bytes ≤ 140737488355328) (hbase : base ≤ w.heap.size)
    (h : ∀ ao c w', w'.ownsRow base e size (.slice ao (n + m) c) (n + m) (xs ++ news) → w.grownBy w' v.ownBlock → K (a.put o.dst (.slice ao (n + m) c)) w') :
    if Region.wanted o (yielded ops a.tmps) = true then Oper.wp P o a w K Q else E := by
  rw [if_pos (by simp [Region.wanted, hgd])]
  exact wp_append_src w s xo t tx ho base e i z size bytes ht hi hz hsize hby hzs v n xs hv hown x m news hx hs h63 hbytes hbase fun v' w' h2 h3 => by
    obtain ⟨ao, c, rfl⟩ := own_shape h2
    exact h ao c w' h2 h3

end Go.Proofs.Ytijklginabipgaa

/-
  The law's configuration of bits: one that may be.
-/
namespace Go.Proofs.Ytijklginabipgaa
open Go.RowKit

theorem own_set {B : Nat} {w : World} {ao : Option Addr} {c : Nat} {ns : List Nat} (h : OwnNats B w ao c ns) {a : Addr} (ha : a.block < B) (u : Value) : OwnNats B (w.setCell a u) ao c ns := ownsRow_setCell_below h ha u
def offOf (v : List Nat) (k : Nat) (ls : List Nat) : List Nat := (ls.take k).filter fun z => !hasZ (intsOf v) (z : Int)
theorem offOf_more {v ls : List Nat} {k : Nat} (h : k < ls.length) (hz : hasZ (intsOf v) (ls[k] : Nat) = false) : offOf v (k + 1) ls = offOf v k ls ++ [ls[k]] := by
  unfold offOf
  rw [List.take_succ_eq_append_getElem h, List.filter_append]
  simp [hz]
theorem offOf_same {v ls : List Nat} {k : Nat} (h : k < ls.length) (hz : hasZ (intsOf v) (ls[k] : Nat) = true) : offOf v (k + 1) ls = offOf v k ls := by
  unfold offOf
  rw [List.take_succ_eq_append_getElem h, List.filter_append]
  simp [hz]
theorem offOf_len (v : List Nat) (k : Nat) (ls : List Nat) : (offOf v k ls).length ≤ ls.length := by
  unfold offOf
  exact Nat.le_trans (List.length_filter_le _ _) (by simp; omega)
theorem off_cfg {v ls : List Nat} (hv : Nodes v) (hne : v ≠ []) (hl : Nodes ls) : Cf.ok ⟨v, [], offOf v ls.length ls⟩ = true := by
  have e : offOf v ls.length ls = ls.filter (fun (z : Nat) => !hasZ (intsOf v) (z : Int)) := by unfold offOf; rw [List.take_of_length_le (Nat.le_refl _)]
  have hn : Nodes (offOf v ls.length ls) := by
    rw [e]
    exact ⟨hl.up.filter _, fun n hn => hl.le n (List.mem_filter.1 hn).1⟩
  show isCfg (intsOf v) (intsOf []) (intsOf (offOf v ls.length ls)) = true
  rw [isCfg_eq, hv.rise, hn.rise]
  have h1 : (intsOf v).isEmpty = false := by
    cases v with
    | nil => exact absurd rfl hne
    | cons a t => rfl
  have h2 : anyV (intsOf v) (intsOf []) (intsOf (offOf v ls.length ls)) = false := by
    unfold anyV
    rw [List.any_eq_false]
    intro z hz
    obtain ⟨n, hn2, rfl⟩ := List.mem_map.1 hz
    rw [e] at hn2
    have := (List.mem_filter.1 hn2).2
    simp only [vot, Bool.not_eq_true', Bool.or_eq_true] at this ⊢
    rw [this]
    intro h
    rcases h with h | h
    · cases h
    · simp [hasZ, pos, intsOf] at h
  rw [h1, h2]
  rfl

/-- What is handed out: a configuration that may be, its rows its own. -/
def CfgPost (w : World) (e : Ending) (w' : World) : Prop := ∃ c : Cf, ∃ v, e = .returned v ∧ CfV w.heap.size c w' v ∧ c.ok = true ∧ Nodes c.v ∧ c.n = [] ∧ Nodes c.l ∧ Kept Nil w w'

set_option maxRecDepth 100000 in
set_option maxHeartbeats 4000000 in
theorem configOf_any (z1 z2 : Int) (w : World) : Calls Try.prog 32 #[.int .i64 z1, .int .i64 z2] w (CfgPost w) := by
  obtain ⟨i0, hi, hz0, hz1, hz2⟩ := info_parts Try.infoInt
  have HR0 : Hid (_) := blk_new w (.cells #[.slice none 0 0, .slice none 0 0, .slice none 0 0] 24)
  go_enter Try.func32, Try.ntmps32
  go_wp2_with fail
  refine (nodes_any z1 _).mono ?_
  rintro e w1 ⟨vs, a1, c1, rfl, o1, n1, k1⟩
  have HR1 : Hid (w1.heap[w.heap.size]? = some (.cells #[.slice none 0 0, .slice none 0 0, .slice none 0 0] 24 (0, 0))) := k1.block _ _ HR0.out (fun x => x.elim)
  have HK1 : Hid (Kept Nil w w1) := ((Kept.refl _ _).alloc _).trans k1
  have HB1 : Hid (w.heap.size < w1.heap.size) := lt_of_block HR1.out
  by_cases hne : vs = []
  · subst hne
    have HNV : Hid (Nodes [1]) := ⟨List.pairwise_singleton _ _, by simp⟩
    have es : (w1.alloc (.cells #[.slice (some ⟨w1.heap.size + 1, 0, none⟩) 1 1, .slice none 0 0, .slice none 0 0] 24)).heap.size = w1.heap.size + 1 := by simp
    have HCB : Hid (((w1.alloc (.cells #[.slice (some ⟨w1.heap.size + 1, 0, none⟩) 1 1, .slice none 0 0, .slice none 0 0] 24)).alloc (.cells #[.int .i64 1] 3)).heap[w1.heap.size]? = some (.cells #[.slice (some ⟨w1.heap.size + 1, 0, none⟩) 1 1, .slice none 0 0, .slice none 0 0] 24 (0, 0))) := blk_past (blk_new w1 _) _
    have HRB : Hid (_) := blk_past (blk_past HR1.out (.cells #[.slice (some ⟨w1.heap.size + 1, 0, none⟩) 1 1, .slice none 0 0, .slice none 0 0] 24)) (.cells #[.int .i64 1] 3)
    have HOB : Hid (OwnNats (w.heap.size + 1) ((w1.alloc (.cells #[.slice (some ⟨w1.heap.size + 1, 0, none⟩) 1 1, .slice none 0 0, .slice none 0 0] 24)).alloc (.cells #[.int .i64 1] 3)) (some ⟨w1.heap.size + 1, 0, none⟩) 1 [1]) := by
      have := World.ownsRow_lit (base := w.heap.size + 1) (e := 3) (size := 1) (w1.alloc (.cells #[.slice (some ⟨w1.heap.size + 1, 0, none⟩) 1 1, .slice none 0 0, .slice none 0 0] 24)) #[.int .i64 1] 1 (by have := HB1.out; rw [es]; omega) (by decide) rfl
      rw [es] at this
      exact this
    have HKB : Hid (Kept Nil w ((w1.alloc (.cells #[.slice (some ⟨w1.heap.size + 1, 0, none⟩) 1 1, .slice none 0 0, .slice none 0 0] 24)).alloc (.cells #[.int .i64 1] 3))) := (HK1.out.alloc _).alloc _
    have HVN : Hid (∀ g, (Value.slice (some ⟨w1.heap.size + 1, 0, none⟩) 1 1).ownBlock = some g → g ≠ w1.heap.size) := fun g hg => by simp [Value.ownBlock] at hg; omega
    clear o1 n1 es
    go_wp2_with fail
    refine (nodes_any z2 _).mono ?_
    rintro e w2 ⟨ls, a3, c3, rfl, o3, n3, k2⟩
    have HC2 : Hid (w2.heap[w1.heap.size]? = some (.cells #[.slice (some ⟨w1.heap.size + 1, 0, none⟩) 1 1, .slice none 0 0, .slice none 0 0] 24 (0, 0))) := k2.block _ _ HCB.out (fun x => x.elim)
    have HR2 : Hid (w2.heap[w.heap.size]? = some (.cells #[.slice none 0 0, .slice none 0 0, .slice none 0 0] 24 (0, 0))) := k2.block _ _ HRB.out (fun x => x.elim)
    have HO2 : Hid (OwnNats (w.heap.size + 1) w2 ((some ⟨w1.heap.size + 1, 0, none⟩)) 1 [1]) := own_kept HOB.out k2 (fun _ _ _ x => x.elim)
    have HL2 : Hid (OwnNats (w1.heap.size + 1) w2 a3 c3 ls) := own_mono o3 (by simp)
    have HK2 : Hid (Kept Nil w w2) := HKB.out.trans k2
    have HB2 : Hid (w1.heap.size < w2.heap.size) := lt_of_block HC2.out
    have HVB : Hid (∀ g, (Value.slice ((some ⟨w1.heap.size + 1, 0, none⟩)) ([1]).length 1).ownBlock = some g → g < w2.heap.size ∧ g ≠ w1.heap.size) := fun g hg => ⟨(HO2.out.lt g hg).2, HVN.out g hg⟩
    have HLB : Hid (∀ g, (Value.slice a3 ls.length c3).ownBlock = some g → g < w2.heap.size ∧ g ≠ w1.heap.size) := fun g hg => ⟨(HL2.out.lt g hg).2, by have := (HL2.out.lt g hg).1; omega⟩
    have HNL : Hid (Nodes ls) := n3
    have hl9 : (ls.length : Int) ≤ 9 := by have := n3.few; omega
    clear k2 o3 n3
    go_wp2
    go_loopw [7] (fun i wr => ∃ k : Nat, ∃ aL cL, k ≤ ls.length ∧ i = .int .i64 k ∧ Hid (wr.heap[w1.heap.size]? = some (.cells #[.slice (some ⟨w1.heap.size + 1, 0, none⟩) 1 1, .slice none 0 0, .slice aL (offOf [1] k ls).length cL] 24 (0, 0))) ∧ Hid (wr.heap[w.heap.size]? = some (.cells #[.slice none 0 0, .slice none 0 0, .slice none 0 0] 24 (0, 0))) ∧ Hid (OwnNats w2.heap.size wr aL cL (offOf [1] k ls)) ∧ Hid (OwnNats (w.heap.size + 1) wr ((some ⟨w1.heap.size + 1, 0, none⟩)) 1 [1]) ∧ Hid (OwnNats (w1.heap.size + 1) wr a3 c3 ls) ∧ Hid (Kept Nil w wr) ∧ w2.heap.size ≤ wr.heap.size) (fun i _ => ls.length - (intOf i).toNat)
    case atStart => exact ⟨0, none, 0, Nat.zero_le _, rfl, HC2.out, HR2.out, World.ownsRow_nil _ _ _ _, HO2.out, HL2.out, HK2.out, Nat.le_refl _⟩
    case round =>
      obtain ⟨k, aL, cL, hk, rfl, HC, HR, HOL, HO, HL, HK, hsz⟩ := hrel
      clear HC2 HR2 HO2 HL2 HK2
      by_cases hlt : k < ls.length
      · obtain ⟨g3, _, rfl, _, hc3⟩ := HL.out.shape (fun e => by subst e; simp at hlt)
        have hcell := hc3 k hlt
        have q0 : wr.cell? ⟨w1.heap.size, 0, none⟩ = some (.slice (some ⟨w1.heap.size + 1, 0, none⟩) 1 1) := blk_cell HC.out 0
        have Q := fun m => keepHas_any _ 1 ((some ⟨w1.heap.size + 1, 0, none⟩)) (intsOf ([1])) (ls[k] : Nat) (wr.drewN m) ((nats_row HO.out).nil ((Kept.refl _ _).drewN _)) (by rw [intsOf_len]; have := HNV.out.few; omega)
        simp only [intsOf_len] at Q
        have hki : (k : Int) < ls.length := by omega
        have hmore := @offOf_more ([1]) ls k hlt
        have hsame := @offOf_same ([1]) ls k hlt
        clear hc3
        generalize ls[k] = y at *
        generalize hasZ (intsOf ([1])) (y : Int) = d at Q hmore hsame
        have HMORE : Hid (d = false → offOf ([1]) (k + 1) ls = offOf ([1]) k ls ++ [y]) := hmore
        have HSAME : Hid (d = true → offOf ([1]) (k + 1) ls = offOf ([1]) k ls) := hsame
        clear hmore hsame
        go_wp2
        go_quiet (first | (go_at_call 37; exact Calls.quiet_of_same (Q _)))
        generalize hwd : wr.drewN _ = wd
        have HKd : Hid (Kept Nil wr wd) := by rw [← hwd]; exact (Kept.refl _ _).drewN _
        have hcd : wd.cell? ⟨g3, k, none⟩ = some (.int .i64 y) := by rw [← hwd]; exact hcell
        clear hwd Q q0 hcell
        cases d with
        | true =>
          have HT : Hid (offOf ([1]) (k + 1) ls = offOf ([1]) k ls) := HSAME.out rfl
          clear HSAME HMORE
          go_wp2
          go_roundw
          case rel => exact ⟨k + 1, aL, cL, by omega, by go_num, by show wd.heap[w1.heap.size]? = _; rw [HT.out]; exact HKd.out.block _ _ HC.out (fun x => x.elim), HKd.out.block _ _ HR.out (fun x => x.elim), by show OwnNats _ _ _ _ _; rw [HT.out]; exact own_kept HOL.out HKd.out (fun _ _ _ x => x.elim), own_kept HO.out HKd.out (fun _ _ _ x => x.elim), own_kept HL.out HKd.out (fun _ _ _ x => x.elim), HK.out.trans HKd.out, Nat.le_trans hsz HKd.out.size⟩
          case measure => simp [intOf]; omega
        | false =>
          have HT : Hid (offOf ([1]) (k + 1) ls = offOf ([1]) k ls ++ [y]) := HMORE.out rfl
          clear HSAME HMORE
          have HCd := HKd.out.block _ _ HC.out (fun x => x.elim)
          have q2 : wd.cell? ⟨w1.heap.size, 2, none⟩ = some (.slice aL (offOf ([1]) k ls).length cL) := blk_cell HCd 2
          have f2 : wd.frozen? ⟨w1.heap.size, 2, none⟩ = false := blk_free HCd 2
          have hltd : w1.heap.size < wd.heap.size := lt_of_block HCd
          have hlg : g3 < wd.heap.size := cell_lt hcd
          have ho : wd.ownsRow w2.heap.size 3 1 (.slice aL (offOf ([1]) k ls).length cL) (offOf ([1]) k ls).length (natCells (offOf ([1]) k ls)) := own_kept HOL.out HKd.out (fun _ _ _ x => x.elim)
          have HLL : Hid ((offOf ([1]) k ls).length + 1 ≤ maxLen ∧ ((offOf ([1]) k ls).length + 1) * 8 ≤ 140737488355328) := by
            have := offOf_len ([1]) k ls
            constructor
            · unfold maxLen; omega
            · omega
          have hszd : w2.heap.size ≤ wd.heap.size := Nat.le_trans hsz HKd.out.size
          go_wp2
          go_region_law (refine step_append_src _ rfl (.tmp 36) (.tmp 41) 22 22 rfl w2.heap.size 3 i0 (.int .i64 0) 1 8 Try.underlying22 hi hz0 hz1 hz2 rfl (.slice aL (offOf ([1]) k ls).length cL) (offOf ([1]) k ls).length (natCells (offOf ([1]) k ls)) (by simp [Act.eval]) (World.ownsRow.alloc (w := wd.drew) ho _) (.slice (some ⟨wd.heap.size, 0, none⟩) 1 1) 1 [.int .i64 y] (by simp [Act.eval]) (src_int (w := wd.drew) y) HLL.out.1 HLL.out.2 (le_alloc (w := wd.drew) hszd _) ?_; intro ao' c' w4 ho' hg'; have HO4 : Hid _ := ho'; have hb4 := hg'.block w1.heap.size (by simp; omega) (fun e => by have := (ho.lt _ e.symm).1; have := HB2.out; omega); have HC4 : Hid (w4.heap[w1.heap.size]? = some (.cells #[.slice (some ⟨w1.heap.size + 1, 0, none⟩) 1 1, .slice none 0 0, .slice aL (offOf ([1]) k ls).length cL] 24 (0, 0))) := hb4.trans (blk_past (w := wd.drew) HCd _); have q4 : w4.cell? ⟨w1.heap.size, 2, none⟩ = some (.slice aL (offOf ([1]) k ls).length cL) := blk_cell HC4.out 2; have f4 : w4.frozen? ⟨w1.heap.size, 2, none⟩ = false := blk_free HC4.out 2; have HG4 : Hid _ := hg'; clear ho' hg' hb4)
          all_goals go_wp2
          all_goals
            have e4 : (Value.slice aL (offOf ([1]) k ls).length cL).ownBlock = none ∨ ∃ g, (Value.slice aL (offOf ([1]) k ls).length cL).ownBlock = some g ∧ w2.heap.size ≤ g := by
              cases hq : (Value.slice aL (offOf ([1]) k ls).length cL).ownBlock with
              | none => exact .inl rfl
              | some g => exact .inr ⟨g, rfl, (ho.lt g hq).1⟩
            have hrow : ∀ g, (Value.slice aL (offOf ([1]) k ls).length cL).ownBlock = some g → w2.heap.size ≤ g := fun g hq => (ho.lt g hq).1
            have HRd : Hid (w4.heap[w.heap.size]? = some (.cells #[.slice none 0 0, .slice none 0 0, .slice none 0 0] 24 (0, 0))) := (HG4.out.block w.heap.size (by have := HB1.out; simp; omega) (fun e => by have := hrow _ e.symm; have := HB1.out; have := HB2.out; omega)).trans (blk_past (w := wd.drew) (HKd.out.block _ _ HR.out (fun x => x.elim)) _)
            have HOd : Hid (OwnNats (w.heap.size + 1) w4 ((some ⟨w1.heap.size + 1, 0, none⟩)) 1 ([1])) := World.ownsRow.kept (World.ownsRow.alloc (w := wd.drew) (own_kept HO.out HKd.out.drew (fun _ _ _ x => x.elim)) _) HG4.out (by
              cases hq : (Value.slice ((some ⟨w1.heap.size + 1, 0, none⟩)) ([1]).length 1).ownBlock with
              | none => exact .inl rfl
              | some g => exact .inr (fun e => by have := hrow g e.symm; have := (HVB.out g hq).1; omega))
            have HLd : Hid (OwnNats (w1.heap.size + 1) w4 (some ⟨g3, 0, none⟩) c3 ls) := World.ownsRow.kept (World.ownsRow.alloc (w := wd.drew) (own_kept HL.out HKd.out.drew (fun _ _ _ x => x.elim)) _) HG4.out (.inr (fun e => by have := hrow g3 e.symm; have := (HLB.out g3 rfl).1; omega))
            have HKw : Hid (Kept Nil w w4) := (((HK.out.trans HKd.out).drew).alloc _).grown HG4.out (fun g hq => by have := hrow g hq; have := HB1.out; have := HB2.out; omega)
            have hsz4 : w2.heap.size ≤ w4.heap.size := by have := HG4.out.size; simp at this; omega
          all_goals go_roundw
          all_goals first | (simp [intOf]; omega) | exact ⟨k + 1, ao', c', by omega, by go_num, by show _ = _; rw [HT.out, List.length_append]; exact blk_set HC4.out 2 _, blk_other HRd.out (show w.heap.size ≠ w1.heap.size by have := HB1.out; omega) _, by show OwnNats _ _ _ _ _; rw [HT.out]; exact own_set (OwnNats.push HO4.out) (show w1.heap.size < w2.heap.size from HB2.out) _, ownsRow_setCell_other HOd.out (fun e => (HVB.out _ e).2 rfl) _, own_set HLd.out (show w1.heap.size < w1.heap.size + 1 by omega) _, HKw.out.setNew (show w.heap.size ≤ w1.heap.size by have := HB1.out; omega) _, by simp [World.setCell]; exact hsz4⟩
      · obtain rfl : k = ls.length := by omega
        have HOK : Hid (Cf.ok ⟨[1], [], offOf ([1]) ls.length ls⟩ = true) := off_cfg HNV.out (by simp) HNL.out
        have HNO : Hid (Nodes (offOf ([1]) ls.length ls)) := ⟨(HNL.out.up.sublist (List.take_sublist _ _)).filter _, fun n hn => HNL.out.le n (List.mem_of_mem_take (List.mem_filter.1 hn).1)⟩
        have p0 : wr.cell? ⟨w1.heap.size, 0, none⟩ = some (.slice (some ⟨w1.heap.size + 1, 0, none⟩) 1 1) := blk_cell HC.out 0
        have p1 : wr.cell? ⟨w1.heap.size, 1, none⟩ = some (.slice none 0 0) := blk_cell HC.out 1
        have p2 : wr.cell? ⟨w1.heap.size, 2, none⟩ = some (.slice aL (offOf ([1]) ls.length ls).length cL) := blk_cell HC.out 2
        have r0 : wr.cell? ⟨w.heap.size, 0, none⟩ = some (.slice none 0 0) := blk_cell HR.out 0
        have r1 : wr.cell? ⟨w.heap.size, 1, none⟩ = some (.slice none 0 0) := blk_cell HR.out 1
        have r2 : wr.cell? ⟨w.heap.size, 2, none⟩ = some (.slice none 0 0) := blk_cell HR.out 2
        have f0 := blk_free HR.out 0
        have f1 := blk_free HR.out 1
        have f2 := blk_free HR.out 2
        have hB0 : w.heap.size < w.heap.size + 1 := by omega
        have hB2 : w.heap.size < w2.heap.size := by have := HB1.out; have := HB2.out; omega
        go_wp2
        refine bodyPost_ret (v := .agg #[.slice (some ⟨w1.heap.size + 1, 0, none⟩) 1 1, .slice none 0 0, .slice aL (offOf ([1]) ls.length ls).length cL]) (by simp [results, Try.results32, go_sem, r0, r1, r2]) rfl ?_
        exact ⟨⟨[1], [], offOf ([1]) ls.length ls⟩, _, rfl, ⟨(some ⟨w1.heap.size + 1, 0, none⟩), none, aL, 1, 0, cL, rfl, own_mono (own_set (own_set (own_set HO.out hB0 _) hB0 _) hB0 _) (Nat.le_succ _), World.ownsRow_nil _ _ _ _, own_mono (own_set (own_set (own_set HOL.out hB2 _) hB2 _) hB2 _) (Nat.le_of_lt hB2)⟩, HOK.out, HNV.out, rfl, HNO.out, ((HK.out.setNew (Nat.le_refl _) _).setNew (Nat.le_refl _) _).setNew (Nat.le_refl _) _⟩
  · have hne2 : ((vs.length : Int) == 0) = false := by simpa using hne
    have HNV : Hid (Nodes vs) := n1
    have HCB : Hid (_) := blk_new w1 (.cells #[.slice a1 vs.length c1, .slice none 0 0, .slice none 0 0] 24)
    have HRB : Hid (_) := blk_past HR1.out (.cells #[.slice a1 vs.length c1, .slice none 0 0, .slice none 0 0] 24)
    have HOB : Hid (OwnNats (w.heap.size + 1) (w1.alloc (.cells #[.slice a1 vs.length c1, .slice none 0 0, .slice none 0 0] 24)) a1 c1 vs) := World.ownsRow.alloc (own_mono o1 (by simp)) _
    have HKB : Hid (Kept Nil w (w1.alloc (.cells #[.slice a1 vs.length c1, .slice none 0 0, .slice none 0 0] 24))) := HK1.out.alloc _
    have HVN : Hid (∀ g, (Value.slice a1 vs.length c1).ownBlock = some g → g ≠ w1.heap.size) := fun g hg => by have := (o1.lt g hg).2; omega
    clear o1 n1
    go_wp2_with fail
    refine (nodes_any z2 _).mono ?_
    rintro e w2 ⟨ls, a3, c3, rfl, o3, n3, k2⟩
    have HC2 : Hid (w2.heap[w1.heap.size]? = some (.cells #[.slice a1 vs.length c1, .slice none 0 0, .slice none 0 0] 24 (0, 0))) := k2.block _ _ HCB.out (fun x => x.elim)
    have HR2 : Hid (w2.heap[w.heap.size]? = some (.cells #[.slice none 0 0, .slice none 0 0, .slice none 0 0] 24 (0, 0))) := k2.block _ _ HRB.out (fun x => x.elim)
    have HO2 : Hid (OwnNats (w.heap.size + 1) w2 (a1) c1 vs) := own_kept HOB.out k2 (fun _ _ _ x => x.elim)
    have HL2 : Hid (OwnNats (w1.heap.size + 1) w2 a3 c3 ls) := own_mono o3 (by simp)
    have HK2 : Hid (Kept Nil w w2) := HKB.out.trans k2
    have HB2 : Hid (w1.heap.size < w2.heap.size) := lt_of_block HC2.out
    have HVB : Hid (∀ g, (Value.slice (a1) (vs).length c1).ownBlock = some g → g < w2.heap.size ∧ g ≠ w1.heap.size) := fun g hg => ⟨(HO2.out.lt g hg).2, HVN.out g hg⟩
    have HLB : Hid (∀ g, (Value.slice a3 ls.length c3).ownBlock = some g → g < w2.heap.size ∧ g ≠ w1.heap.size) := fun g hg => ⟨(HL2.out.lt g hg).2, by have := (HL2.out.lt g hg).1; omega⟩
    have HNL : Hid (Nodes ls) := n3
    have hl9 : (ls.length : Int) ≤ 9 := by have := n3.few; omega
    clear k2 o3 n3
    go_wp2
    go_loopw [7] (fun i wr => ∃ k : Nat, ∃ aL cL, k ≤ ls.length ∧ i = .int .i64 k ∧ Hid (wr.heap[w1.heap.size]? = some (.cells #[.slice a1 vs.length c1, .slice none 0 0, .slice aL (offOf vs k ls).length cL] 24 (0, 0))) ∧ Hid (wr.heap[w.heap.size]? = some (.cells #[.slice none 0 0, .slice none 0 0, .slice none 0 0] 24 (0, 0))) ∧ Hid (OwnNats w2.heap.size wr aL cL (offOf vs k ls)) ∧ Hid (OwnNats (w.heap.size + 1) wr (a1) c1 vs) ∧ Hid (OwnNats (w1.heap.size + 1) wr a3 c3 ls) ∧ Hid (Kept Nil w wr) ∧ w2.heap.size ≤ wr.heap.size) (fun i _ => ls.length - (intOf i).toNat)
    case atStart => exact ⟨0, none, 0, Nat.zero_le _, rfl, HC2.out, HR2.out, World.ownsRow_nil _ _ _ _, HO2.out, HL2.out, HK2.out, Nat.le_refl _⟩
    case round =>
      obtain ⟨k, aL, cL, hk, rfl, HC, HR, HOL, HO, HL, HK, hsz⟩ := hrel
      clear HC2 HR2 HO2 HL2 HK2
      by_cases hlt : k < ls.length
      · obtain ⟨g3, _, rfl, _, hc3⟩ := HL.out.shape (fun e => by subst e; simp at hlt)
        have hcell := hc3 k hlt
        have q0 : wr.cell? ⟨w1.heap.size, 0, none⟩ = some (.slice a1 vs.length c1) := blk_cell HC.out 0
        have Q := fun m => keepHas_any _ c1 (a1) (intsOf (vs)) (ls[k] : Nat) (wr.drewN m) ((nats_row HO.out).nil ((Kept.refl _ _).drewN _)) (by rw [intsOf_len]; have := HNV.out.few; omega)
        simp only [intsOf_len] at Q
        have hki : (k : Int) < ls.length := by omega
        have hmore := @offOf_more (vs) ls k hlt
        have hsame := @offOf_same (vs) ls k hlt
        clear hc3
        generalize ls[k] = y at *
        generalize hasZ (intsOf (vs)) (y : Int) = d at Q hmore hsame
        have HMORE : Hid (d = false → offOf (vs) (k + 1) ls = offOf (vs) k ls ++ [y]) := hmore
        have HSAME : Hid (d = true → offOf (vs) (k + 1) ls = offOf (vs) k ls) := hsame
        clear hmore hsame
        go_wp2
        go_quiet (first | (go_at_call 37; exact Calls.quiet_of_same (Q _)))
        generalize hwd : wr.drewN _ = wd
        have HKd : Hid (Kept Nil wr wd) := by rw [← hwd]; exact (Kept.refl _ _).drewN _
        have hcd : wd.cell? ⟨g3, k, none⟩ = some (.int .i64 y) := by rw [← hwd]; exact hcell
        clear hwd Q q0 hcell
        cases d with
        | true =>
          have HT : Hid (offOf (vs) (k + 1) ls = offOf (vs) k ls) := HSAME.out rfl
          clear HSAME HMORE
          go_wp2
          go_roundw
          case rel => exact ⟨k + 1, aL, cL, by omega, by go_num, by show wd.heap[w1.heap.size]? = _; rw [HT.out]; exact HKd.out.block _ _ HC.out (fun x => x.elim), HKd.out.block _ _ HR.out (fun x => x.elim), by show OwnNats _ _ _ _ _; rw [HT.out]; exact own_kept HOL.out HKd.out (fun _ _ _ x => x.elim), own_kept HO.out HKd.out (fun _ _ _ x => x.elim), own_kept HL.out HKd.out (fun _ _ _ x => x.elim), HK.out.trans HKd.out, Nat.le_trans hsz HKd.out.size⟩
          case measure => simp [intOf]; omega
        | false =>
          have HT : Hid (offOf (vs) (k + 1) ls = offOf (vs) k ls ++ [y]) := HMORE.out rfl
          clear HSAME HMORE
          have HCd := HKd.out.block _ _ HC.out (fun x => x.elim)
          have q2 : wd.cell? ⟨w1.heap.size, 2, none⟩ = some (.slice aL (offOf (vs) k ls).length cL) := blk_cell HCd 2
          have f2 : wd.frozen? ⟨w1.heap.size, 2, none⟩ = false := blk_free HCd 2
          have hltd : w1.heap.size < wd.heap.size := lt_of_block HCd
          have hlg : g3 < wd.heap.size := cell_lt hcd
          have ho : wd.ownsRow w2.heap.size 3 1 (.slice aL (offOf (vs) k ls).length cL) (offOf (vs) k ls).length (natCells (offOf (vs) k ls)) := own_kept HOL.out HKd.out (fun _ _ _ x => x.elim)
          have HLL : Hid ((offOf (vs) k ls).length + 1 ≤ maxLen ∧ ((offOf (vs) k ls).length + 1) * 8 ≤ 140737488355328) := by
            have := offOf_len (vs) k ls
            constructor
            · unfold maxLen; omega
            · omega
          have hszd : w2.heap.size ≤ wd.heap.size := Nat.le_trans hsz HKd.out.size
          go_wp2
          go_region_law (refine step_append_src _ rfl (.tmp 36) (.tmp 41) 22 22 rfl w2.heap.size 3 i0 (.int .i64 0) 1 8 Try.underlying22 hi hz0 hz1 hz2 rfl (.slice aL (offOf (vs) k ls).length cL) (offOf (vs) k ls).length (natCells (offOf (vs) k ls)) (by simp [Act.eval]) (World.ownsRow.alloc (w := wd.drew) ho _) (.slice (some ⟨wd.heap.size, 0, none⟩) 1 1) 1 [.int .i64 y] (by simp [Act.eval]) (src_int (w := wd.drew) y) HLL.out.1 HLL.out.2 (le_alloc (w := wd.drew) hszd _) ?_; intro ao' c' w4 ho' hg'; have HO4 : Hid _ := ho'; have hb4 := hg'.block w1.heap.size (by simp; omega) (fun e => by have := (ho.lt _ e.symm).1; have := HB2.out; omega); have HC4 : Hid (w4.heap[w1.heap.size]? = some (.cells #[.slice a1 vs.length c1, .slice none 0 0, .slice aL (offOf (vs) k ls).length cL] 24 (0, 0))) := hb4.trans (blk_past (w := wd.drew) HCd _); have q4 : w4.cell? ⟨w1.heap.size, 2, none⟩ = some (.slice aL (offOf (vs) k ls).length cL) := blk_cell HC4.out 2; have f4 : w4.frozen? ⟨w1.heap.size, 2, none⟩ = false := blk_free HC4.out 2; have HG4 : Hid _ := hg'; clear ho' hg' hb4)
          all_goals go_wp2
          all_goals
            have e4 : (Value.slice aL (offOf (vs) k ls).length cL).ownBlock = none ∨ ∃ g, (Value.slice aL (offOf (vs) k ls).length cL).ownBlock = some g ∧ w2.heap.size ≤ g := by
              cases hq : (Value.slice aL (offOf (vs) k ls).length cL).ownBlock with
              | none => exact .inl rfl
              | some g => exact .inr ⟨g, rfl, (ho.lt g hq).1⟩
            have hrow : ∀ g, (Value.slice aL (offOf (vs) k ls).length cL).ownBlock = some g → w2.heap.size ≤ g := fun g hq => (ho.lt g hq).1
            have HRd : Hid (w4.heap[w.heap.size]? = some (.cells #[.slice none 0 0, .slice none 0 0, .slice none 0 0] 24 (0, 0))) := (HG4.out.block w.heap.size (by have := HB1.out; simp; omega) (fun e => by have := hrow _ e.symm; have := HB1.out; have := HB2.out; omega)).trans (blk_past (w := wd.drew) (HKd.out.block _ _ HR.out (fun x => x.elim)) _)
            have HOd : Hid (OwnNats (w.heap.size + 1) w4 (a1) c1 (vs)) := World.ownsRow.kept (World.ownsRow.alloc (w := wd.drew) (own_kept HO.out HKd.out.drew (fun _ _ _ x => x.elim)) _) HG4.out (by
              cases hq : (Value.slice (a1) (vs).length c1).ownBlock with
              | none => exact .inl rfl
              | some g => exact .inr (fun e => by have := hrow g e.symm; have := (HVB.out g hq).1; omega))
            have HLd : Hid (OwnNats (w1.heap.size + 1) w4 (some ⟨g3, 0, none⟩) c3 ls) := World.ownsRow.kept (World.ownsRow.alloc (w := wd.drew) (own_kept HL.out HKd.out.drew (fun _ _ _ x => x.elim)) _) HG4.out (.inr (fun e => by have := hrow g3 e.symm; have := (HLB.out g3 rfl).1; omega))
            have HKw : Hid (Kept Nil w w4) := (((HK.out.trans HKd.out).drew).alloc _).grown HG4.out (fun g hq => by have := hrow g hq; have := HB1.out; have := HB2.out; omega)
            have hsz4 : w2.heap.size ≤ w4.heap.size := by have := HG4.out.size; simp at this; omega
          all_goals go_roundw
          all_goals first | (simp [intOf]; omega) | exact ⟨k + 1, ao', c', by omega, by go_num, by show _ = _; rw [HT.out, List.length_append]; exact blk_set HC4.out 2 _, blk_other HRd.out (show w.heap.size ≠ w1.heap.size by have := HB1.out; omega) _, by show OwnNats _ _ _ _ _; rw [HT.out]; exact own_set (OwnNats.push HO4.out) (show w1.heap.size < w2.heap.size from HB2.out) _, ownsRow_setCell_other HOd.out (fun e => (HVB.out _ e).2 rfl) _, own_set HLd.out (show w1.heap.size < w1.heap.size + 1 by omega) _, HKw.out.setNew (show w.heap.size ≤ w1.heap.size by have := HB1.out; omega) _, by simp [World.setCell]; exact hsz4⟩
      · obtain rfl : k = ls.length := by omega
        have HOK : Hid (Cf.ok ⟨vs, [], offOf (vs) ls.length ls⟩ = true) := off_cfg HNV.out hne HNL.out
        have HNO : Hid (Nodes (offOf (vs) ls.length ls)) := ⟨(HNL.out.up.sublist (List.take_sublist _ _)).filter _, fun n hn => HNL.out.le n (List.mem_of_mem_take (List.mem_filter.1 hn).1)⟩
        have p0 : wr.cell? ⟨w1.heap.size, 0, none⟩ = some (.slice a1 vs.length c1) := blk_cell HC.out 0
        have p1 : wr.cell? ⟨w1.heap.size, 1, none⟩ = some (.slice none 0 0) := blk_cell HC.out 1
        have p2 : wr.cell? ⟨w1.heap.size, 2, none⟩ = some (.slice aL (offOf (vs) ls.length ls).length cL) := blk_cell HC.out 2
        have r0 : wr.cell? ⟨w.heap.size, 0, none⟩ = some (.slice none 0 0) := blk_cell HR.out 0
        have r1 : wr.cell? ⟨w.heap.size, 1, none⟩ = some (.slice none 0 0) := blk_cell HR.out 1
        have r2 : wr.cell? ⟨w.heap.size, 2, none⟩ = some (.slice none 0 0) := blk_cell HR.out 2
        have f0 := blk_free HR.out 0
        have f1 := blk_free HR.out 1
        have f2 := blk_free HR.out 2
        have hB0 : w.heap.size < w.heap.size + 1 := by omega
        have hB2 : w.heap.size < w2.heap.size := by have := HB1.out; have := HB2.out; omega
        go_wp2
        refine bodyPost_ret (v := .agg #[.slice a1 vs.length c1, .slice none 0 0, .slice aL (offOf (vs) ls.length ls).length cL]) (by simp [results, Try.results32, go_sem, r0, r1, r2]) rfl ?_
        exact ⟨⟨vs, [], offOf (vs) ls.length ls⟩, _, rfl, ⟨a1, none, aL, c1, 0, cL, rfl, own_mono (own_set (own_set (own_set HO.out hB0 _) hB0 _) hB0 _) (Nat.le_succ _), World.ownsRow_nil _ _ _ _, own_mono (own_set (own_set (own_set HOL.out hB2 _) hB2 _) hB2 _) (Nat.le_of_lt hB2)⟩, HOK.out, HNV.out, rfl, HNO.out, ((HK.out.setNew (Nat.le_refl _) _).setNew (Nat.le_refl _) _).setNew (Nat.le_refl _) _⟩

end Go.Proofs.Ytijklginabipgaa

/-
  WireBack: the pieces of its code.
-/
namespace Go.Proofs.Ytijklginabipgaa
open Go.RowKit

def headIsB (n : Nat) : Code → Bool
  | .region k _ _ => k == n
  | .seq a _ => headIsB n a
  | .block _ c => headIsB n c
  | .loop c => headIsB n c
  | _ => false
/-- A function's code from the statement on that begins with a region. -/
def tailB (n : Nat) : Code → Option Code
  | .seq a b => if headIsB n a then some (.seq a b) else tailB n b
  | _ => none
noncomputable def bT10 : Code := (Try.f7.body.bind (tailB 10)).getD .skip
noncomputable def bT15 : Code := (Try.f7.body.bind (tailB 15)).getD .skip
noncomputable def bT21 : Code := (Try.f7.body.bind (tailB 21)).getD .skip
noncomputable def bT24 : Code := (Try.f7.body.bind (tailB 24)).getD .skip
noncomputable def bT28 : Code := (Try.f7.body.bind (tailB 28)).getD .skip
theorem bTails : (Try.f7.body.bind (tailB 10)).isSome = true ∧ (Try.f7.body.bind (tailB 15)).isSome = true ∧ (Try.f7.body.bind (tailB 21)).isSome = true ∧ (Try.f7.body.bind (tailB 24)).isSome = true ∧ (Try.f7.body.bind (tailB 28)).isSome = true := ⟨by kernel_rfl, by kernel_rfl, by kernel_rfl, by kernel_rfl, by kernel_rfl⟩

end Go.Proofs.Ytijklginabipgaa
