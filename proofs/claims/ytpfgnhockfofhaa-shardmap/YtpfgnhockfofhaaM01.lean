/-
  Joined: WSum, WRef, WFrame1, WNum, WRead.
-/
import Derived.Test.YtpfgnhockfofhaaProg
import Derived.Test.YtpfgnhockfofhaaM00
import Derived.Outline
import Derived.Laws.BitsAllLaws
import Derived.Laws.IdiomStrings
import Derived.Deep.DeepMust
/-
  The program's Sum and the document's: each answers the plain sum of WCrc.
-/
namespace Go.Proofs.Ytpfgnhockfofhaa
open Go.RowKit

theorem u32_facts (x : Nat) (hx : x < 4294967296) : bits .and .u32 (x : Int) 1 = ((x % 2 : Nat) : Int) ∧ bits .xor .u32 ((x / 2 : Nat) : Int) 2197175160 = ((x / 2 ^^^ 2197175160 : Nat) : Int) := by
  constructor
  · have := u32_and_nat x 1 hx (by omega)
    rw [nat_mask1] at this
    exact this
  · exact u32_xor_nat (x / 2) 2197175160 (by omega) (by omega)

theorem xor_max (x : Nat) (hx : x < 4294967296) : bits BinOp.xor IntKind.u32 IntKind.u32.max (x : Int) = ((4294967295 - x : Nat) : Int) := by
  have e : IntKind.u32.max = ((4294967295 : Nat) : Int) := by decide
  rw [e, u32_xor_nat _ _ (by omega) hx]
  congr 1
  have h : (4294967295 : Nat) = 2 ^ 32 - 1 := by decide
  rw [h]
  apply Nat.eq_of_testBit_eq
  intro i
  rw [Nat.testBit_xor, Nat.testBit_two_pow_sub_one]
  have := Nat.testBit_two_pow_sub_succ (x := x) (n := 32) (by omega) i
  have e2 : 2 ^ 32 - 1 - x = 2 ^ 32 - (x + 1) := by omega
  rw [e2, this]
  by_cases hi : i < 32
  · simp [hi]
  · have : x.testBit i = false := Nat.testBit_lt_two_pow (Nat.lt_of_lt_of_le (by omega : x < 2 ^ 32) (Nat.pow_le_pow_right (by omega) (by omega)))
    simp [hi, this]

set_option maxHeartbeats 1000000 in
theorem sum_any (l : List UInt8) (w : World) (hl : l.length ≤ maxLen) :
    Calls Try.prog 89 #[.string (bs l)] w fun e w' => e = .returned (.int .u32 (crc l)) ∧ w' = w := by
  unfold maxLen at hl
  have hsz := bs_size l
  go_enter Try.func89, Try.ntmps89
  go_wp2
  go_loop [3, 8] (fun c i => ∃ k : Nat, ∃ x : Nat, k ≤ l.length ∧ i = .int .i64 k ∧ Hid (x = crcReg (l.take k)) ∧ x < 4294967296 ∧ c = .int .u32 x) (fun _ i => l.length - (intOf i).toNat)
  case atStart => exact ⟨0, 4294967295, Nat.zero_le _, rfl, rfl, by omega, rfl⟩
  case round =>
    obtain ⟨k, x, hk, rfl, HX, hr, rfl⟩ := hrel
    by_cases hlt : k < l.length
    · obtain ⟨c, hcl⟩ : ∃ c, l[k] = c := ⟨_, rfl⟩
      have hat : ∀ h, (bs l)[k]'h = c := fun h => (bs_at l k h).trans hcl
      have hc := c.toNat_lt
      have hmod : (c.toNat : Int) % 4294967296 = c.toNat := by omega
      have hx := u32_xor_nat x (c.toNat) hr (by omega)
      have hy := xor_lt hr (b := c.toNat) (by omega)
      obtain ⟨y, hY⟩ : ∃ y, y = x ^^^ c.toNat := ⟨_, rfl⟩
      rw [← hY] at hx hy
      have HY : Hid (crcSteps 8 y = crcReg (l.take (k + 1))) := by
        rw [List.take_succ_eq_append_getElem hlt, crcReg_snoc, ← HX.out, hcl, hY]; rfl
      clear hY hc hcl
      go_wp2
      go_loop [3, 17] (fun c i => ∃ j : Nat, ∃ z : Nat, j ≤ 8 ∧ i = .int .i64 j ∧ Hid (crcSteps (8 - j) z = crcReg (l.take (k + 1))) ∧ z < 4294967296 ∧ c = .int .u32 z) (fun _ i => 8 - (intOf i).toNat)
      case atStart => exact ⟨0, y, Nat.zero_le _, rfl, HY, hy, rfl⟩
      case round =>
        obtain ⟨j, z, hj, rfl, HZ, hz, rfl⟩ := hrel
        by_cases hj8 : j < 8
        · have hf := u32_facts z hz
          obtain ⟨hf1, hf2⟩ := hf
          have HS : Hid (crcSteps (8 - (j + 1)) (crcStep z) = crcReg (l.take (k + 1))) := by
            have := HZ.out
            rw [show 8 - j = (8 - (j + 1)) + 1 by omega] at this
            exact this
          have hst := crcStep_lt hz
          by_cases hodd : z % 2 = 1
          · have HE : Hid (crcStep z = z / 2 ^^^ 2197175160) := by unfold crcStep; exact if_pos hodd
            have hf1' : bits .and .u32 (z : Int) 1 = 1 := by rw [hf1, hodd]; rfl
            clear hf1 hodd
            go_wp2
            go_round
            case rel => exact ⟨j + 1, crcStep z, by omega, by go_num, HS, hst, by rw [HE.out, ← hf2]; rfl⟩
            case measure => simp [intOf]; omega
          · have HE : Hid (crcStep z = z / 2) := by unfold crcStep; exact if_neg hodd
            have hf1' : bits .and .u32 (z : Int) 1 = 0 := by rw [hf1, show z % 2 = 0 by omega]; rfl
            clear hf1 hodd
            go_wp2
            go_round
            case rel => exact ⟨j + 1, crcStep z, by omega, by go_num, HS, hst, by rw [HE.out]; rfl⟩
            case measure => simp [intOf]; omega
        · have HE : Hid (z = crcReg (l.take (k + 1))) := by
            have := HZ.out
            rw [show 8 - j = 0 by omega] at this
            exact this
          go_wp2
          go_round
          case rel => exact ⟨k + 1, z, by omega, by go_num, HE, hz, rfl⟩
          case measure => simp [intOf]; omega
    · have hm := xor_max x hr
      have HE : Hid (x = crcReg l) := by
        have := HX.out
        rw [List.take_of_length_le (by omega)] at this
        exact this
      go_wp2
      go_ret
      exact ⟨ret_int (by rw [HE.out]; rfl), rfl⟩
end Go.Proofs.Ytpfgnhockfofhaa

/-
  What the document's reader does, method by method, in the plain readings of WBase; and its Sum.
-/
namespace Go.Proofs.Ytpfgnhockfofhaa
open Go.RowKit

end Go.Proofs.Ytpfgnhockfofhaa

/-
  The program's writer of a text and of a frame; Frame, and the document's Frame: the same plain bytes.
-/
namespace Go.Proofs.Ytpfgnhockfofhaa
open Go.RowKit

/-- Four bytes, the lowest first. -/
def le4 (c : Nat) : List UInt8 := [UInt8.ofNat (c % 256), UInt8.ofNat (c / 256 % 256), UInt8.ofNat (c / 65536 % 256), UInt8.ofNat (c / 16777216 % 256)]
def encFrame (l : List UInt8) : List UInt8 := encText l ++ le4 (crc l)

theorem byteCells_bs (l : List UInt8) : byteCells (bs l) = cellsOf l := by simp [byteCells, bs_data, cellsOf]
theorem src_str (l : List UInt8) (w : World) : Src Try.prog 1 9 (.string (bs l)) l.length (cellsOf l) w := by
  have := Src.ofString w (P := Try.prog) Try.underlying9 (bs l)
  rwa [bs_size, byteCells_bs] at this

set_option maxRecDepth 100000 in
theorem wText_any (b : Nat) (s l : List UInt8) (w : World) (h : WInv b w l) (hs : s.length ≤ 1099511627775) (hl : l.length ≤ 1099511627775) :
    Calls Try.prog 88 #[.pointer (some ⟨b, 0, none⟩), .string (bs s)] w fun e w' => e = .returned (.tuple #[]) ∧ WInv b w' (l ++ encText s) ∧ Kept (Wr b) w w' := by
  obtain ⟨i0, hi, hz0, hz1, hz2⟩ := info_parts Try.infoByte
  have H := wNumber_any b s.length l w h hs hl
  have hsz := bs_size s
  have hs' : (s.length : Int) ≤ 1099511627775 := by omega
  have HLL : Hid ((l ++ enc s.length).length + s.length ≤ maxLen ∧ ((l ++ enc s.length).length + s.length) * 1 ≤ 140737488355328) := by
    have h1 := enc_len6 hs
    simp only [List.length_append]
    constructor
    · unfold maxLen; omega
    · omega
  clear hs hl h
  obtain ⟨l2, hl2⟩ : ∃ l2, l2 = l ++ enc s.length := ⟨_, rfl⟩
  rw [← hl2] at H HLL
  have HE : Hid (l2 ++ s = l ++ encText s) := by rw [hl2]; show _ = l ++ (enc s.length ++ s); simp
  clear hl2
  go_enter Try.func88, Try.ntmps88
  go_wp2_with (first | (go_at_call 93; refine H.mono ?_; rintro e w1 ⟨rfl, ⟨ao, c, hb, ho⟩, hk⟩; have h0 : w1.cell? ⟨b, 0, none⟩ = some (.slice ao l2.length c) := blk_cell hb 0; have f0 := blk_free hb 0) | (at_builtin; go_must (refine wpList_append_src _ rfl (.tmp 12) (.tmp 13) 140 9 rfl (b + 1) 5 i0 (.int .u8 0) 1 1 Try.underlying140 hi hz0 hz1 hz2 rfl _ _ _ rfl ho (.string (bs s)) s.length (cellsOf s) rfl (src_str s _) HLL.out.1 HLL.out.2 (lt_of_block hb) ?_); intro ao' c' w2 ho' hg'; have hb1 := after_grow hb ho hg'; have h1 : w2.cell? ⟨b, 0, none⟩ = some (.slice ao l2.length c) := blk_cell hb1 0; have f1 := blk_free hb1 0; have HP : Hid _ := WInv.put (m := s.length) (news := s) hb ho rfl ho' hg'; clear ho' hg' hb1))
  go_end0
  refine ⟨rfl, ?_, hk.trans HP.out.2⟩
  rw [← HE.out]
  exact HP.out.1

def leN : Nat → Nat → List UInt8
  | 0, _ => []
  | k + 1, c => UInt8.ofNat (c % 256) :: leN k (c / 256)
theorem le4_eq (c : Nat) : leN 4 c = le4 c := by
  simp only [leN, le4]
  rw [Nat.div_div_eq_div_mul, Nat.div_div_eq_div_mul]

set_option maxRecDepth 100000 in
set_option maxHeartbeats 1000000 in
theorem wFrame_any (b : Nat) (s l : List UInt8) (w : World) (h : WInv b w l) (hs : s.length ≤ 1099511627775) (hl : l.length ≤ 1099511627775) :
    Calls Try.prog 82 #[.pointer (some ⟨b, 0, none⟩), .string (bs s)] w fun e w' => e = .returned (.tuple #[]) ∧ WInv b w' (l ++ encFrame s) ∧ Kept (Wr b) w w' := by
  obtain ⟨i0, hi, hz0, hz1, hz2⟩ := info_parts Try.infoByte
  have H := wText_any b s l w h hs hl
  have HS : ∀ w, _ := fun w => sum_any s w (by unfold maxLen; omega)
  have hcl := crc_lt s
  have HLL : Hid (∀ l' : List UInt8, ∀ k x, l' ++ leN k x = l ++ encFrame s → l'.length + 1 ≤ maxLen ∧ (l'.length + 1) * 1 ≤ 140737488355328) := by
    intro l' k x he
    have h1 := enc_len6 hs
    have h2 := congrArg List.length he
    simp only [List.length_append, encFrame, encText, le4, List.length_cons, List.length_nil] at h2
    constructor
    · unfold maxLen; omega
    · omega
  have HE0 : Hid ((l ++ encText s) ++ leN 4 (crc s) = l ++ encFrame s) := by show _ = l ++ (encText s ++ le4 (crc s)); rw [le4_eq]; simp
  clear hs hl h
  go_enter Try.func82, Try.ntmps82
  go_wp2_with (first | (go_at_call 88; refine H.mono ?_; rintro e w1 ⟨rfl, hinv, hk⟩) | (go_at_call 89; refine (HS _).mono ?_; rintro e w2 ⟨rfl, rfl⟩))
  go_loopw [4, 10] (fun t i wr => ∃ k : Nat, ∃ x : Nat, ∃ l' : List UInt8, k ≤ 4 ∧ i = .int .i64 k ∧ x < 4294967296 ∧ t = .int .u32 x ∧ WInv b wr l' ∧ Hid (l' ++ leN (4 - k) x = l ++ encFrame s) ∧ Kept (Wr b) w wr) (fun _ i _ => 4 - (intOf i).toNat)
  case atStart => exact ⟨0, crc s, _, by omega, rfl, hcl, rfl, hinv, HE0, hk⟩
  case round =>
    obtain ⟨k, x, l', hk4, rfl, hx, rfl, ⟨ao, c, hb, ho⟩, HE, hkk⟩ := hrel
    have h0 : wr.cell? ⟨b, 0, none⟩ = some (.slice ao l'.length c) := blk_cell hb 0
    have f0 := blk_free hb 0
    have HL : Hid (l'.length + 1 ≤ maxLen ∧ (l'.length + 1) * 1 ≤ 140737488355328) := HLL.out _ _ _ HE.out
    have HB : Hid (b + 1 ≤ wr.heap.size) := lt_of_block hb
    by_cases hk3 : k < 4
    · obtain ⟨d, hd⟩ : ∃ d : UInt8, d = UInt8.ofNat (x % 256) := ⟨_, rfl⟩
      have DD : Hid ((x : Int) % 256 = d.toNat) := by
        show (x : Int) % 256 = _
        rw [hd, ofNat_toNat (by omega)]; omega
      have HE2 : Hid ((l' ++ [d]) ++ leN (4 - (k + 1)) (x / 256) = l ++ encFrame s) := by
        show _ = _
        rw [← HE.out, show 4 - k = (4 - (k + 1)) + 1 by omega, leN, hd]; simp
      clear hd
      go_wp2_with (first | (at_builtin; go_must (refine wpList_append_src _ rfl _ _ 140 140 rfl (b + 1) 5 i0 (.int .u8 0) 1 1 Try.underlying140 hi hz0 hz1 hz2 rfl _ _ _ rfl (ho.alloc _) (.slice (some ⟨wr.heap.size, 0, none⟩) 1 1) 1 (cellsOf [d]) rfl (src_one d DD.out) HL.out.1 HL.out.2 (le_alloc HB.out _) ?_); intro ao' c' w1 ho' hg'; have hb1 := after_grow (blk_past hb _) (ho.alloc _) hg'; have h1 : w1.cell? ⟨b, 0, none⟩ = some (.slice ao l'.length c) := blk_cell hb1 0; have f1 := blk_free hb1 0; have HP : Hid _ := WInv.put (m := 1) (news := [d]) (blk_past hb _) (ho.alloc _) rfl ho' hg'; clear ho' hg' hb1))
      go_roundw
      case rel => exact ⟨k + 1, x / 256, l' ++ [d], by omega, by go_num, by omega, by go_num, HP.out.1, HE2, hkk.trans (((Kept.refl _ _).alloc _).trans HP.out.2)⟩
      case measure => simp [intOf]; omega
    · go_wp2
      go_end0
      refine ⟨rfl, ?_, hkk⟩
      rw [← HE.out, show 4 - k = 0 by omega, leN, List.append_nil]
      exact ⟨ao, c, hb, ho⟩

/-- The writer's bytes as a string. -/
theorem conv_own {b : Nat} {w : World} {l : List UInt8} {ao : Option Addr} {c : Nat} (ho : w.ownsRow (b + 1) 5 1 (.slice ao l.length c) l.length (cellsOf l)) :
    (convert 140 9 (.slice ao l.length c)).run Try.prog w = .ok (.string (bs l)) w := by
  rcases ho.2 with ⟨hv, hn⟩ | ⟨g, cap, cur, hv, hg⟩
  · obtain rfl : l = [] := List.eq_nil_of_length_eq_zero hn
    cases hv
    exact run_convert_bytes_nil w 140 5 Try.underlying140 Try.underlying5 0 0 9 Try.underlying9
  · cases hv
    refine run_convert_bytes_back w 140 9 5 ⟨g, 0, none⟩ c l Try.underlying140 Try.underlying5 Try.underlying9 ?_
    intro j hj
    refine ho.cells (g := g) rfl j _ ?_
    simp [cellsOf, hj]

theorem winv_new (w : World) : WInv w.heap.size (w.alloc (.cells #[.slice none 0 0] 166)) [] := ⟨none, 0, blk_new w _, World.ownsRow_nil _ _ _ _⟩
/-- What a new writer has turned is nothing that was there. -/
theorem Kept.newWr {w w' : World} {o : Obj} (h : Kept (Wr w.heap.size) (w.alloc o) w') : Kept Nil w w' := by
  have h2 := (h.mono (Y := fun k _ => w.heap.size ≤ k) (by
    rintro k o (rfl | ⟨hk, _⟩)
    · exact Nat.le_refl _
    · exact Nat.le_of_lt hk)).below (B := w.heap.size) (fun k o hk => hk) (by simp)
  exact Kept.ofBelow (((Below.refl _ _).alloc (Nat.le_refl _) o).trans h2) _

set_option maxRecDepth 100000 in
set_option maxHeartbeats 1000000 in
theorem frame_ok (s : List UInt8) (w : World) (hs : s.length ≤ 65536) :
    Calls Try.prog 68 #[.string (bs s)] w fun e w' => e = .returned (.tuple #[.string (bs (encFrame s)), .int .i64 0]) ∧ Kept Nil w w' := by
  have hsz := bs_size s
  have hs' : (s.length : Int) ≤ 65536 := by omega
  have H := fun b w h => wFrame_any b s [] w h (by omega) (by simp)
  simp only [List.nil_append] at H
  clear hs
  go_enter Try.func68, Try.ntmps68
  go_wp2_with (first | (go_at_call 82; refine (H _ _ (winv_new w)).mono ?_; rintro e w1 ⟨rfl, ⟨ao, c, hb, ho⟩, hk⟩; have h0 : w1.cell? ⟨w.heap.size, 0, none⟩ = some (.slice ao (encFrame s).length c) := blk_cell hb 0; have hcv := conv_own ho) | (go_at_call 81; go_in))
  go_ret2
  exact ⟨rfl, hk.newWr⟩

theorem frame_no (s : List UInt8) (w : World) (hs : ¬ s.length ≤ 65536) (hl : s.length ≤ maxLen) :
    Calls Try.prog 68 #[.string (bs s)] w fun e w' => e = .returned (.tuple #[.string (bs []), .int .i64 4]) ∧ w' = w := by
  unfold maxLen at hl
  have hsz := bs_size s
  have hs' : ¬ (s.length : Int) ≤ 65536 := by omega
  clear hs
  go_enter Try.func68, Try.ntmps68
  go_wp2_with (first | (go_at_call 81; go_in))
  go_ret2
  exact ⟨rfl, rfl⟩

/-! ### both at once -/
/-- What a frame is made of, or that it can't be: the bytes and the error. -/
def putFrame (s : List UInt8) : List UInt8 × Int := if s.length ≤ 65536 then (encFrame s, 0) else ([], 4)

theorem frame_any (s : List UInt8) (w : World) (hl : s.length ≤ maxLen) :
    Calls Try.prog 68 #[.string (bs s)] w fun e w' => e = .returned (.tuple #[.string (bs (putFrame s).1), .int .i64 (putFrame s).2]) ∧ Kept Nil w w' := by
  unfold putFrame
  split
  · exact frame_ok s w (by assumption)
  · refine (frame_no s w (by assumption) hl).mono ?_
    rintro e w' ⟨rfl, rfl⟩
    exact ⟨rfl, .refl _ _⟩
end Go.Proofs.Ytpfgnhockfofhaa

/-
  Which numbers may be, and numbers written one behind the other: the program's areFrom, AreNumbers, AreCounts, and its writer's numbers.
-/
namespace Go.Proofs.Ytpfgnhockfofhaa
open Go.RowKit

theorem blk_at {w : World} {b : Nat} {cs : Array Value} {t : TypeId} {v : Value} (h : w.heap[b]? = some (.cells cs t (0, 0))) (i : Nat) (hv : cs[i]? = some v) : w.cell? ⟨b, i, none⟩ = some v := (blk_cell h i).trans hv

end Go.Proofs.Ytpfgnhockfofhaa

/-
  What the program's reader does, method by method: must, take, number, upTo, text: each answers by the plain reading of WBase, or gives up by its panic, and turns the reader's one cell alone.
-/
namespace Go.Proofs.Ytpfgnhockfofhaa
open Go.RowKit

def up (c : Int) : List PanicEntry := [{ v := .iface 183 (.agg #[.int .i64 c]), recovered := false }]

theorem must_ok (c : Int) (w : World) : Calls Try.prog 98 #[.bool true, .int .i64 c] w fun e w' => e = .returned (.tuple #[]) ∧ w' = w := by
  go_enter Try.func98, Try.ntmps98
  go_wp2
  go_end0
  exact ⟨rfl, rfl⟩

theorem must_no (c : Int) (w : World) : Calls Try.prog 98 #[.bool false, .int .i64 c] w fun e w' => e = .panicked (up c) ∧ w' = w := by
  go_enter Try.func98, Try.ntmps98
  go_wp2
  exact ⟨rfl, rfl, rfl⟩

theorem take_ok (p : Addr) (l : List UInt8) (n : Nat) (w : World) (hc : w.cell? p = some (.string (bs l))) (hz : w.frozen? p = false) (hn : n ≤ l.length) :
    Calls Try.prog 101 #[.pointer (some p), .int .i64 n] w fun e w' => e = .returned (.string (bs (l.take n))) ∧ w' = w.setCell p (.string (bs (l.drop n))) := by
  have hn' : n ≤ (bs l).size := by rw [bs_size]; exact hn
  rw [← bs_take, ← bs_drop]
  clear hn
  go_enter Try.func101, Try.ntmps101
  go_wp2_with (go_at_call 98; refine (must_ok _ _).mono ?_; rintro e w' ⟨rfl, rfl⟩)
  go_ret
  exact ⟨rfl, rfl⟩

theorem take_no (p : Addr) (l : List UInt8) (n : Nat) (w : World) (hc : w.cell? p = some (.string (bs l))) (hz : w.frozen? p = false) (hn : l.length < n)  :
    Calls Try.prog 101 #[.pointer (some p), .int .i64 n] w fun e w' => e = .panicked (up 3) ∧ w' = w := by
  have hn' : ¬ n ≤ (bs l).size := by rw [bs_size]; omega
  clear hn
  go_enter Try.func101, Try.ntmps101
  go_wp2_with (go_at_call 98; refine (must_no _ _).mono ?_; rintro e w' ⟨rfl, rfl⟩)
  exact ⟨rfl, rfl, rfl⟩

/-- The reader's cell, told by the bytes that are left. -/
structure Left (p : Addr) (w : World) (l : List UInt8) : Prop where
  cell : w.cell? p = some (.string (bs l))
  free : w.frozen? p = false

theorem Left.set {p : Addr} {w : World} {l : List UInt8} (h : Left p w l) (t : List UInt8) : Left p (w.setCell p (.string (bs t))) t :=
  ⟨World.cell?_setCell_same _ _ _ (by rw [h.cell]), by rw [World.frozen?_setCell]; exact h.free⟩

/-- What a reader's method leaves: by its reading, the value and what is left; or its panic. -/
def RdPost {α : Type} (p : Addr) (w : World) (r : Except Int (α × List UInt8)) (V : α → World → Value → Prop) (e : Ending) (w' : World) : Prop :=
  match r with
  | .ok (a, t) => (∃ v, e = .returned v ∧ V a w' v) ∧ Left p w' t ∧ Kept (One p.block) w w'
  | .error c => e = .panicked (up c) ∧ Kept (One p.block) w w'

theorem RdPost.ok {α : Type} {p : Addr} {w : World} {r : Except Int (α × List UInt8)} {V : α → World → Value → Prop} {f : Nat} {args : Array Value} {a : α} {t : List UInt8}
    (h : Calls Try.prog f args w (RdPost p w r V)) (hr : r = .ok (a, t)) :
    Calls Try.prog f args w fun e w' => ∃ v, e = .returned v ∧ V a w' v ∧ w'.cell? p = some (.string (bs t)) ∧ w'.frozen? p = false ∧ Kept (One p.block) w w' := by
  refine h.mono ?_
  intro e w' h
  subst hr
  obtain ⟨⟨v, h1, h2⟩, h3, h4⟩ := h
  exact ⟨v, h1, h2, h3.cell, h3.free, h4⟩

theorem RdPost.no {α : Type} {p : Addr} {w : World} {r : Except Int (α × List UInt8)} {V : α → World → Value → Prop} {f : Nat} {args : Array Value} {c : Int}
    (h : Calls Try.prog f args w (RdPost p w r V)) (hr : r = .error c) :
    Calls Try.prog f args w fun e w' => e = .panicked (up c) ∧ Kept (One p.block) w w' := by
  refine h.mono ?_
  intro e w' h
  subst hr
  exact h

theorem i64_or_nat (a b : Nat) (ha : a < 9223372036854775808) (hb : b < 9223372036854775808) : bits .or .i64 (a : Int) (b : Int) = ((a ||| b : Nat) : Int) := by
  show IntKind.i64.wrap ((BitVec.ofInt 64 (a : Int) ||| BitVec.ofInt 64 (b : Int)).toNat : Int) = _
  rw [BitVec.toNat_or, ofInt_u64 a (by omega), ofInt_u64 b (by omega)]
  have : a ||| b < 2 ^ 63 := Nat.or_lt_two_pow (by omega) (by omega)
  rw [IntKind.wrap_i64]; omega

theorem or_fact (k x : Nat) (c : UInt8) (hk : k ≤ 6) (hx : x < 2 ^ (7 * k)) :
    bits BinOp.or IntKind.i64 (x : Int) (wrap64 (wrap64 (bits BinOp.and IntKind.u8 (c.toNat : Int) 127) * 2 ^ (7 * k))) = ((x + c.toNat % 128 * 2 ^ (7 * k) : Nat) : Int) := by
  have hc : c.toNat < 256 := c.toNat_lt
  have hp := pow7 k hk
  have e1 : bits BinOp.and IntKind.u8 (c.toNat : Int) 127 = ((c.toNat % 128 : Nat) : Int) := by
    have := u8_and_nat c.toNat 127 hc (by omega)
    rw [nat_mask7] at this
    exact this
  have hm : c.toNat % 128 * 2 ^ (7 * k) ≤ 127 * 4398046511104 := Nat.mul_le_mul (by omega) hp
  have e2 : wrap64 ((c.toNat % 128 : Nat) : Int) = ((c.toNat % 128 : Nat) : Int) := by unfold wrap64; omega
  have e3 : wrap64 (((c.toNat % 128 : Nat) : Int) * 2 ^ (7 * k)) = ((c.toNat % 128 * 2 ^ (7 * k) : Nat) : Int) := by
    have : (((c.toNat % 128 : Nat) : Int) * 2 ^ (7 * k)) = ((c.toNat % 128 * 2 ^ (7 * k) : Nat) : Int) := by push_cast; rfl
    rw [this]; unfold wrap64; omega
  rw [e1, e2, e3, i64_or_nat _ _ (by omega) (by omega), or_add hx]

def NumV : Nat → World → Value → Prop := fun n _ v => v = .int .i64 n

set_option maxRecDepth 100000 in
set_option maxHeartbeats 1000000 in
theorem number_any (p : Addr) (l : List UInt8) (w : World) (hl : Left p w l) :
    Calls Try.prog 103 #[.pointer (some p)] w (RdPost p w (rdNum l) NumV) := by
  obtain ⟨hc, hz⟩ := hl
  go_enter Try.func103, Try.ntmps103
  go_wp2
  go_loopw [3, 4] (fun n s wr => ∃ k : Nat, ∃ x : Nat, ∃ t : List UInt8, k ≤ 6 ∧ Hid (rdNum l = numGo k x t) ∧ x < 2 ^ (7 * k) ∧ n = .int .i64 x ∧ s = .int .i64 (7 * k : Nat) ∧ Left p wr t ∧ Kept (One p.block) w wr) (fun _ s _ => 50 - (intOf s).toNat)
  case atStart => exact ⟨0, 0, l, by omega, rfl, by omega, rfl, rfl, ⟨hc, hz⟩, .refl _ _⟩
  case round =>
    obtain ⟨k, x, t, hk, ht, hx, rfl, rfl, ⟨hcc, hzz⟩, hw⟩ := hrel
    clear hc hz
    cases t with
    | nil =>
      go_wp2_with (go_at_call 101; refine (take_no p [] 1 _ hcc hzz (by simp)).mono ?_; rintro e w' ⟨rfl, rfl⟩)
      rw [ht.out, numGo_nil]
      exact ⟨rfl, rfl, hw⟩
    | cons c t =>
      have h1 : (bs [c]).size = 1 := by rw [bs_size]; rfl
      have h2 : ∀ h, ((bs [c])[0]'h) = c := fun h => by rw [bs_at]; rfl
      have h3 := or_fact k x c hk hx
      have hlt := step_lt hx (show c.toNat % 128 < 128 by omega)
      have hw2 : Kept (One p.block) w (wr.setCell p (.string (bs t))) := hw.setCell (fun _ => rfl) _
      have hl2 : Left p (wr.setCell p (.string (bs t))) t := Left.set ⟨hcc, hzz⟩ t
      have HP : Hid (Kept (One p.block) w (wr.setCell p (.string (bs t))) ∧ Left p (wr.setCell p (.string (bs t))) t) := ⟨hw2, hl2⟩
      clear hw2 hl2
      obtain ⟨z, hz⟩ : ∃ z, z = x + c.toNat % 128 * 2 ^ (7 * k) := ⟨_, rfl⟩
      rw [← hz] at h3 hlt
      have HD : Hid (z = x + c.toNat % 128 * 2 ^ (7 * k)) := hz
      by_cases hb : k ≤ 5 ∧ x + c.toNat % 128 * 2 ^ (7 * k) ≤ maxNum ∧ (c.toNat ≠ 0 ∨ k = 0)
      · have hm : (z : Int) ≤ 1099511627775 := by rw [hz]; unfold maxNum at hb; omega
        by_cases h128 : c.toNat < 128
        · have HR : Hid (rdNum l = .ok (z, t)) := by rw [hz]; exact ht.out.trans (numGo_end hb h128)
          obtain ⟨hb1, hb2, hb3⟩ := hb
          clear hb2 hz
          by_cases hcz : c.toNat = 0
          · have hkz : (7 * (k : Int) == 0) = true := by simp; omega
            clear hb3
            have hcz2 : ((c.toNat : Int) != 0) = false := by simp [hcz]
            clear hcz
            go_wp2_with (first | (go_at_call 101; refine (take_ok p (c :: t) 1 _ hcc hzz (by simp)).mono ?_; rintro e w' ⟨rfl, rfl⟩) | (go_at_call 98; refine (must_ok _ _).mono ?_; rintro e w' ⟨rfl, rfl⟩))
            go_ret
            unfold RdPost
            rw [HR.out]
            exact ⟨⟨_, rfl, rfl⟩, HP.out.2, HP.out.1⟩
          · clear hb3
            go_wp2_with (first | (go_at_call 101; refine (take_ok p (c :: t) 1 _ hcc hzz (by simp)).mono ?_; rintro e w' ⟨rfl, rfl⟩) | (go_at_call 98; refine (must_ok _ _).mono ?_; rintro e w' ⟨rfl, rfl⟩))
            go_ret
            unfold RdPost
            rw [HR.out]
            exact ⟨⟨_, rfl, rfl⟩, HP.out.2, HP.out.1⟩
        · have HR : Hid (rdNum l = numGo (k + 1) z t) := by rw [hz]; exact ht.out.trans (numGo_more hb h128)
          obtain ⟨hb1, hb2, hb3⟩ := hb
          have hcz : ¬ c.toNat = 0 := by omega
          clear hb2 hz hb3
          go_wp2_with (first | (go_at_call 101; refine (take_ok p (c :: t) 1 _ hcc hzz (by simp)).mono ?_; rintro e w' ⟨rfl, rfl⟩) | (go_at_call 98; refine (must_ok _ _).mono ?_; rintro e w' ⟨rfl, rfl⟩))
          go_roundw
          case rel => exact ⟨k + 1, z, t, by omega, HR, hlt, rfl, by go_num, HP.out.2, HP.out.1⟩
          case measure => simp [intOf]; omega
      · have HR : Hid (rdNum l = .error 1) := ht.out.trans (numGo_bad hb)
        by_cases hk5 : k ≤ 5
        · by_cases hm : (z : Int) ≤ 1099511627775
          · have hcz : c.toNat = 0 := by unfold maxNum at hb; omega
            have hkz : (7 * (k : Int) == 0) = false := by simp; unfold maxNum at hb; omega
            have hcz2 : ((c.toNat : Int) != 0) = false := by simp [hcz]
            clear hcz hb hz
            go_wp2_with (first | (go_at_call 101; refine (take_ok p (c :: t) 1 _ hcc hzz (by simp)).mono ?_; rintro e w' ⟨rfl, rfl⟩) | (go_at_call 98; refine (must_no _ _).mono ?_; rintro e w' ⟨rfl, rfl⟩))
            unfold bodyPost RdPost
            rw [HR.out]
            exact ⟨rfl, rfl, HP.out.1⟩
          · clear hb hz
            go_wp2_with (first | (go_at_call 101; refine (take_ok p (c :: t) 1 _ hcc hzz (by simp)).mono ?_; rintro e w' ⟨rfl, rfl⟩) | (go_at_call 98; refine (must_no _ _).mono ?_; rintro e w' ⟨rfl, rfl⟩))
            unfold bodyPost RdPost
            rw [HR.out]
            exact ⟨rfl, rfl, HP.out.1⟩
        · clear hb hz
          go_wp2_with (first | (go_at_call 101; refine (take_ok p (c :: t) 1 _ hcc hzz (by simp)).mono ?_; rintro e w' ⟨rfl, rfl⟩) | (go_at_call 98; refine (must_no _ _).mono ?_; rintro e w' ⟨rfl, rfl⟩))
          unfold bodyPost RdPost
          rw [HR.out]
          exact ⟨rfl, rfl, HP.out.1⟩

theorem number_ok {p : Addr} {l t : List UInt8} {n : Nat} {w : World} (hl : Left p w l) (hr : rdNum l = .ok (n, t)) :
    Calls Try.prog 103 #[.pointer (some p)] w fun e w' => e = .returned (.int .i64 n) ∧ w'.cell? p = some (.string (bs t)) ∧ w'.frozen? p = false ∧ Kept (One p.block) w w' := by
  refine (RdPost.ok (number_any p l w hl) hr).mono ?_
  rintro e w' ⟨v, rfl, rfl, h⟩
  exact ⟨rfl, h⟩

theorem number_no {p : Addr} {l : List UInt8} {c : Int} {w : World} (hl : Left p w l) (hr : rdNum l = .error c) :
    Calls Try.prog 103 #[.pointer (some p)] w fun e w' => e = .panicked (up c) ∧ Kept (One p.block) w w' := RdPost.no (number_any p l w hl) hr

theorem upTo_any (p : Addr) (most : Nat) (l : List UInt8) (w : World) (hl : Left p w l) :
    Calls Try.prog 102 #[.pointer (some p), .int .i64 most] w (RdPost p w (rdUpTo most l) NumV) := by
  cases hr : rdNum l with
  | error c =>
    have HR : Hid (rdUpTo most l = .error c) := by unfold rdUpTo; rw [hr]; rfl
    go_enter Try.func102, Try.ntmps102
    go_wp2_with (go_at_call 103; refine (number_no hl hr).mono ?_; rintro e w' ⟨rfl, hk⟩)
    unfold bodyPost RdPost
    rw [HR.out]
    exact ⟨rfl, rfl, hk⟩
  | ok r =>
    obtain ⟨n, t⟩ := r
    by_cases hn : n ≤ most
    · have HR : Hid (rdUpTo most l = .ok (n, t)) := by unfold rdUpTo; rw [hr]; exact if_pos hn
      go_enter Try.func102, Try.ntmps102
      go_wp2_with (first | (go_at_call 103; refine (number_ok hl hr).mono ?_; rintro e w' ⟨rfl, hc', hz', hk⟩) | (go_at_call 98; refine (must_ok _ _).mono ?_; rintro e w' ⟨rfl, rfl⟩))
      go_ret
      unfold RdPost
      rw [HR.out]
      exact ⟨⟨_, rfl, rfl⟩, ⟨by assumption, by assumption⟩, by assumption⟩
    · have HR : Hid (rdUpTo most l = .error 4) := by unfold rdUpTo; rw [hr]; exact if_neg hn
      go_enter Try.func102, Try.ntmps102
      go_wp2_with (first | (go_at_call 103; refine (number_ok hl hr).mono ?_; rintro e w' ⟨rfl, hc', hz', hk⟩) | (go_at_call 98; refine (must_no _ _).mono ?_; rintro e w' ⟨rfl, rfl⟩))
      unfold bodyPost RdPost
      rw [HR.out]
      exact ⟨rfl, rfl, by assumption⟩

theorem upTo_ok {p : Addr} {l t : List UInt8} {most n : Nat} {w : World} (hl : Left p w l) (hr : rdUpTo most l = .ok (n, t)) :
    Calls Try.prog 102 #[.pointer (some p), .int .i64 most] w fun e w' => e = .returned (.int .i64 n) ∧ w'.cell? p = some (.string (bs t)) ∧ w'.frozen? p = false ∧ Kept (One p.block) w w' := by
  refine (RdPost.ok (upTo_any p most l w hl) hr).mono ?_
  rintro e w' ⟨v, rfl, rfl, h⟩
  exact ⟨rfl, h⟩

theorem upTo_no {p : Addr} {l : List UInt8} {most : Nat} {c : Int} {w : World} (hl : Left p w l) (hr : rdUpTo most l = .error c) :
    Calls Try.prog 102 #[.pointer (some p), .int .i64 most] w fun e w' => e = .panicked (up c) ∧ Kept (One p.block) w w' := RdPost.no (upTo_any p most l w hl) hr

def StrV : List UInt8 → World → Value → Prop := fun s _ v => v = .string (bs s)

theorem text_any (p : Addr) (most : Nat) (l : List UInt8) (w : World) (hl : Left p w l) :
    Calls Try.prog 99 #[.pointer (some p), .int .i64 most] w (RdPost p w (rdText most l) StrV) := by
  cases hr : rdUpTo most l with
  | error c =>
    have HR : Hid (rdText most l = .error c) := by unfold rdText; rw [hr]; rfl
    go_enter Try.func99, Try.ntmps99
    go_wp2_with (go_at_call 102; refine (upTo_no hl hr).mono ?_; rintro e w' ⟨rfl, hk⟩)
    unfold bodyPost RdPost
    rw [HR.out]
    exact ⟨rfl, rfl, hk⟩
  | ok r =>
    obtain ⟨n, t⟩ := r
    by_cases hn : n ≤ t.length
    · have HR : Hid (rdText most l = .ok (t.take n, t.drop n)) := by unfold rdText; rw [hr]; exact if_pos hn
      go_enter Try.func99, Try.ntmps99
      go_wp2_with (first | (go_at_call 102; refine (upTo_ok hl hr).mono ?_; rintro e w' ⟨rfl, hc', hz', hk⟩) | (go_at_call 101; refine (take_ok p t n _ hc' hz' hn).mono ?_; rintro e w2 ⟨rfl, rfl⟩))
      go_ret
      unfold RdPost
      rw [HR.out]
      exact ⟨⟨_, rfl, rfl⟩, Left.set (l := t) ⟨by assumption, by assumption⟩ _, Kept.setCell (by assumption) (fun _ => rfl) _⟩
    · have HR : Hid (rdText most l = .error 3) := by unfold rdText; rw [hr]; exact if_neg hn
      go_enter Try.func99, Try.ntmps99
      go_wp2_with (first | (go_at_call 102; refine (upTo_ok hl hr).mono ?_; rintro e w' ⟨rfl, hc', hz', hk⟩) | (go_at_call 101; refine (take_no p t n _ hc' hz' (by omega)).mono ?_; rintro e w2 ⟨rfl, rfl⟩))
      unfold bodyPost RdPost
      rw [HR.out]
      exact ⟨rfl, rfl, by assumption⟩

theorem text_ok {p : Addr} {l s t : List UInt8} {most : Nat} {w : World} (hl : Left p w l) (hr : rdText most l = .ok (s, t)) :
    Calls Try.prog 99 #[.pointer (some p), .int .i64 most] w fun e w' => e = .returned (.string (bs s)) ∧ w'.cell? p = some (.string (bs t)) ∧ w'.frozen? p = false ∧ Kept (One p.block) w w' := by
  refine (RdPost.ok (text_any p most l w hl) hr).mono ?_
  rintro e w' ⟨v, rfl, rfl, h⟩
  exact ⟨rfl, h⟩

theorem text_no {p : Addr} {l : List UInt8} {most : Nat} {c : Int} {w : World} (hl : Left p w l) (hr : rdText most l = .error c) :
    Calls Try.prog 99 #[.pointer (some p), .int .i64 most] w fun e w' => e = .panicked (up c) ∧ Kept (One p.block) w w' := RdPost.no (text_any p most l w hl) hr

end Go.Proofs.Ytpfgnhockfofhaa
