/-
  The program's writer of a text and of a frame; Frame, and the document's Frame: the same plain bytes.
-/
import Derived.Test.YtmlncfnnldplgaaWWrite
import Derived.Test.YtmlncfnnldplgaaWSum
import Derived.Test.YtmlncfnnldplgaaWRef
import Derived.Laws.IdiomStrings
namespace Go.Proofs.Ytmlncfnnldplgaa
open Go.RowKit

/-- Four bytes, the lowest first. -/
def le4 (c : Nat) : List UInt8 := [UInt8.ofNat (c % 256), UInt8.ofNat (c / 256 % 256), UInt8.ofNat (c / 65536 % 256), UInt8.ofNat (c / 16777216 % 256)]
def encFrame (l : List UInt8) : List UInt8 := encText l ++ le4 (crc l)

theorem byteCells_bs (l : List UInt8) : byteCells (bs l) = cellsOf l := by simp [byteCells, bs_data, cellsOf]
theorem src_str (l : List UInt8) (w : World) : Src Try.prog 1 9 (.string (bs l)) l.length (cellsOf l) w := by
  have := Src.ofString w (P := Try.prog) Try.underlying9 (bs l)
  rwa [bs_size, byteCells_bs] at this

set_option maxRecDepth 100000 in
theorem wText_any (b : Nat) (s l : List UInt8) (w : World) (h : WInv b w l) (hs : s.length ≤ 1099511627775) (hl : l.length ≤ 1099511627775) :
    Calls Try.prog 88 #[.pointer (some ⟨b, 0, none⟩), .string (bs s)] w fun e w' => e = .returned (.tuple #[]) ∧ WInv b w' (l ++ encText s) ∧ Kept (Wr b) w w' := by
  obtain ⟨i0, hi, hz0, hz1, hz2⟩ := info_parts Try.infoByte
  have H := wNumber_any b s.length l w h hs hl
  have hsz := bs_size s
  have hs' : (s.length : Int) ≤ 1099511627775 := by omega
  have HLL : Hid ((l ++ enc s.length).length + s.length ≤ maxLen ∧ ((l ++ enc s.length).length + s.length) * 1 ≤ 140737488355328) := by
    have h1 := enc_len6 hs
    simp only [List.length_append]
    constructor
    · unfold maxLen; omega
    · omega
  clear hs hl h
  obtain ⟨l2, hl2⟩ : ∃ l2, l2 = l ++ enc s.length := ⟨_, rfl⟩
  rw [← hl2] at H HLL
  have HE : Hid (l2 ++ s = l ++ encText s) := by rw [hl2]; show _ = l ++ (enc s.length ++ s); simp
  clear hl2
  go_enter Try.func88, Try.ntmps88
  go_wp2_with (first | (go_at_call 93; refine H.mono ?_; rintro e w1 ⟨rfl, ⟨ao, c, hb, ho⟩, hk⟩; have h0 : w1.cell? ⟨b, 0, none⟩ = some (.slice ao l2.length c) := blk_cell hb 0; have f0 := blk_free hb 0) | (at_builtin; go_must (refine wpList_append_src _ rfl (.tmp 12) (.tmp 13) 140 9 rfl (b + 1) 5 i0 (.int .u8 0) 1 1 Try.underlying140 hi hz0 hz1 hz2 rfl _ _ _ rfl ho (.string (bs s)) s.length (cellsOf s) rfl (src_str s _) HLL.out.1 HLL.out.2 (lt_of_block hb) ?_); intro ao' c' w2 ho' hg'; have hb1 := after_grow hb ho hg'; have h1 : w2.cell? ⟨b, 0, none⟩ = some (.slice ao l2.length c) := blk_cell hb1 0; have f1 := blk_free hb1 0; have HP : Hid _ := WInv.put (m := s.length) (news := s) hb ho rfl ho' hg'; clear ho' hg' hb1))
  go_end0
  refine ⟨rfl, ?_, hk.trans HP.out.2⟩
  rw [← HE.out]
  exact HP.out.1

def leN : Nat → Nat → List UInt8
  | 0, _ => []
  | k + 1, c => UInt8.ofNat (c % 256) :: leN k (c / 256)
theorem le4_eq (c : Nat) : leN 4 c = le4 c := by
  simp only [leN, le4]
  rw [Nat.div_div_eq_div_mul, Nat.div_div_eq_div_mul]

set_option maxRecDepth 100000 in
set_option maxHeartbeats 1000000 in
theorem wFrame_any (b : Nat) (s l : List UInt8) (w : World) (h : WInv b w l) (hs : s.length ≤ 1099511627775) (hl : l.length ≤ 1099511627775) :
    Calls Try.prog 82 #[.pointer (some ⟨b, 0, none⟩), .string (bs s)] w fun e w' => e = .returned (.tuple #[]) ∧ WInv b w' (l ++ encFrame s) ∧ Kept (Wr b) w w' := by
  obtain ⟨i0, hi, hz0, hz1, hz2⟩ := info_parts Try.infoByte
  have H := wText_any b s l w h hs hl
  have HS : ∀ w, _ := fun w => sum_any s w (by unfold maxLen; omega)
  have hcl := crc_lt s
  have HLL : Hid (∀ l' : List UInt8, ∀ k x, l' ++ leN k x = l ++ encFrame s → l'.length + 1 ≤ maxLen ∧ (l'.length + 1) * 1 ≤ 140737488355328) := by
    intro l' k x he
    have h1 := enc_len6 hs
    have h2 := congrArg List.length he
    simp only [List.length_append, encFrame, encText, le4, List.length_cons, List.length_nil] at h2
    constructor
    · unfold maxLen; omega
    · omega
  have HE0 : Hid ((l ++ encText s) ++ leN 4 (crc s) = l ++ encFrame s) := by show _ = l ++ (encText s ++ le4 (crc s)); rw [le4_eq]; simp
  clear hs hl h
  go_enter Try.func82, Try.ntmps82
  go_wp2_with (first | (go_at_call 88; refine H.mono ?_; rintro e w1 ⟨rfl, hinv, hk⟩) | (go_at_call 89; refine (HS _).mono ?_; rintro e w2 ⟨rfl, rfl⟩))
  go_loopw [4, 10] (fun t i wr => ∃ k : Nat, ∃ x : Nat, ∃ l' : List UInt8, k ≤ 4 ∧ i = .int .i64 k ∧ x < 4294967296 ∧ t = .int .u32 x ∧ WInv b wr l' ∧ Hid (l' ++ leN (4 - k) x = l ++ encFrame s) ∧ Kept (Wr b) w wr) (fun _ i _ => 4 - (intOf i).toNat)
  case atStart => exact ⟨0, crc s, _, by omega, rfl, hcl, rfl, hinv, HE0, hk⟩
  case round =>
    obtain ⟨k, x, l', hk4, rfl, hx, rfl, ⟨ao, c, hb, ho⟩, HE, hkk⟩ := hrel
    have h0 : wr.cell? ⟨b, 0, none⟩ = some (.slice ao l'.length c) := blk_cell hb 0
    have f0 := blk_free hb 0
    have HL : Hid (l'.length + 1 ≤ maxLen ∧ (l'.length + 1) * 1 ≤ 140737488355328) := HLL.out _ _ _ HE.out
    have HB : Hid (b + 1 ≤ wr.heap.size) := lt_of_block hb
    by_cases hk3 : k < 4
    · obtain ⟨d, hd⟩ : ∃ d : UInt8, d = UInt8.ofNat (x % 256) := ⟨_, rfl⟩
      have DD : Hid ((x : Int) % 256 = d.toNat) := by
        show (x : Int) % 256 = _
        rw [hd, ofNat_toNat (by omega)]; omega
      have HE2 : Hid ((l' ++ [d]) ++ leN (4 - (k + 1)) (x / 256) = l ++ encFrame s) := by
        show _ = _
        rw [← HE.out, show 4 - k = (4 - (k + 1)) + 1 by omega, leN, hd]; simp
      clear hd
      go_wp2_with (first | (at_builtin; go_must (refine wpList_append_src _ rfl _ _ 140 140 rfl (b + 1) 5 i0 (.int .u8 0) 1 1 Try.underlying140 hi hz0 hz1 hz2 rfl _ _ _ rfl (ho.alloc _) (.slice (some ⟨wr.heap.size, 0, none⟩) 1 1) 1 (cellsOf [d]) rfl (src_one d DD.out) HL.out.1 HL.out.2 (le_alloc HB.out _) ?_); intro ao' c' w1 ho' hg'; have hb1 := after_grow (blk_past hb _) (ho.alloc _) hg'; have h1 : w1.cell? ⟨b, 0, none⟩ = some (.slice ao l'.length c) := blk_cell hb1 0; have f1 := blk_free hb1 0; have HP : Hid _ := WInv.put (m := 1) (news := [d]) (blk_past hb _) (ho.alloc _) rfl ho' hg'; clear ho' hg' hb1))
      go_roundw
      case rel => exact ⟨k + 1, x / 256, l' ++ [d], by omega, by go_num, by omega, by go_num, HP.out.1, HE2, hkk.trans (((Kept.refl _ _).alloc _).trans HP.out.2)⟩
      case measure => simp [intOf]; omega
    · go_wp2
      go_end0
      refine ⟨rfl, ?_, hkk⟩
      rw [← HE.out, show 4 - k = 0 by omega, leN, List.append_nil]
      exact ⟨ao, c, hb, ho⟩

/-- The writer's bytes as a string. -/
theorem conv_own {b : Nat} {w : World} {l : List UInt8} {ao : Option Addr} {c : Nat} (ho : w.ownsRow (b + 1) 5 1 (.slice ao l.length c) l.length (cellsOf l)) :
    (convert 140 9 (.slice ao l.length c)).run Try.prog w = .ok (.string (bs l)) w := by
  rcases ho.2 with ⟨hv, hn⟩ | ⟨g, cap, cur, hv, hg⟩
  · obtain rfl : l = [] := List.eq_nil_of_length_eq_zero hn
    cases hv
    exact run_convert_bytes_nil w 140 5 Try.underlying140 Try.underlying5 0 0 9 Try.underlying9
  · cases hv
    refine run_convert_bytes_back w 140 9 5 ⟨g, 0, none⟩ c l Try.underlying140 Try.underlying5 Try.underlying9 ?_
    intro j hj
    refine ho.cells (g := g) rfl j _ ?_
    simp [cellsOf, hj]

theorem winv_new (w : World) : WInv w.heap.size (w.alloc (.cells #[.slice none 0 0] 166)) [] := ⟨none, 0, blk_new w _, World.ownsRow_nil _ _ _ _⟩
/-- What a new writer has turned is nothing that was there. -/
theorem Kept.newWr {w w' : World} {o : Obj} (h : Kept (Wr w.heap.size) (w.alloc o) w') : Kept Nil w w' := by
  have h2 := (h.mono (Y := fun k _ => w.heap.size ≤ k) (by
    rintro k o (rfl | ⟨hk, _⟩)
    · exact Nat.le_refl _
    · exact Nat.le_of_lt hk)).below (B := w.heap.size) (fun k o hk => hk) (by simp)
  exact Kept.ofBelow (((Below.refl _ _).alloc (Nat.le_refl _) o).trans h2) _

set_option maxRecDepth 100000 in
set_option maxHeartbeats 1000000 in
theorem frame_ok (s : List UInt8) (w : World) (hs : s.length ≤ 65536) :
    Calls Try.prog 68 #[.string (bs s)] w fun e w' => e = .returned (.tuple #[.string (bs (encFrame s)), .int .i64 0]) ∧ Kept Nil w w' := by
  have hsz := bs_size s
  have hs' : (s.length : Int) ≤ 65536 := by omega
  have H := fun b w h => wFrame_any b s [] w h (by omega) (by simp)
  simp only [List.nil_append] at H
  clear hs
  go_enter Try.func68, Try.ntmps68
  go_wp2_with (first | (go_at_call 82; refine (H _ _ (winv_new w)).mono ?_; rintro e w1 ⟨rfl, ⟨ao, c, hb, ho⟩, hk⟩; have h0 : w1.cell? ⟨w.heap.size, 0, none⟩ = some (.slice ao (encFrame s).length c) := blk_cell hb 0; have hcv := conv_own ho) | (go_at_call 81; go_in))
  go_ret2
  exact ⟨rfl, hk.newWr⟩

theorem frame_no (s : List UInt8) (w : World) (hs : ¬ s.length ≤ 65536) (hl : s.length ≤ maxLen) :
    Calls Try.prog 68 #[.string (bs s)] w fun e w' => e = .returned (.tuple #[.string (bs []), .int .i64 4]) ∧ w' = w := by
  unfold maxLen at hl
  have hsz := bs_size s
  have hs' : ¬ (s.length : Int) ≤ 65536 := by omega
  clear hs
  go_enter Try.func68, Try.ntmps68
  go_wp2_with (first | (go_at_call 81; go_in))
  go_ret2
  exact ⟨rfl, rfl⟩

/-- Four bytes of a literal as a string. -/
theorem conv4 (w : World) (a b c d : Int) :
    (convert 140 9 (.slice (some ⟨w.heap.size, 0, none⟩) 4 4)).run Try.prog (w.alloc (.cells #[.int .u8 a, .int .u8 b, .int .u8 c, .int .u8 d] 5)) =
      .ok (.string (bs [UInt8.ofNat a.toNat, UInt8.ofNat b.toNat, UInt8.ofNat c.toNat, UInt8.ofNat d.toNat])) (w.alloc (.cells #[.int .u8 a, .int .u8 b, .int .u8 c, .int .u8 d] 5)) := by
  refine (run_convert_bytes_arg _ 140 5 Try.underlying140 Try.underlying5 w.heap.size 0 4 4 [a, b, c, d] rfl ?_ 9 Try.underlying9).trans ?_
  · intro i hi
    have hb := blk_new w (.cells #[.int .u8 a, .int .u8 b, .int .u8 c, .int .u8 d] 5)
    rcases (show i = 0 ∨ i = 1 ∨ i = 2 ∨ i = 3 by omega) with rfl | rfl | rfl | rfl
    · exact blk_cell hb 0
    · exact blk_cell hb 1
    · exact blk_cell hb 2
    · exact blk_cell hb 3
  · rfl

/-! ### both at once -/
/-- What a frame is made of, or that it can't be: the bytes and the error. -/
def putFrame (s : List UInt8) : List UInt8 × Int := if s.length ≤ 65536 then (encFrame s, 0) else ([], 4)

theorem frame_any (s : List UInt8) (w : World) (hl : s.length ≤ maxLen) :
    Calls Try.prog 68 #[.string (bs s)] w fun e w' => e = .returned (.tuple #[.string (bs (putFrame s).1), .int .i64 (putFrame s).2]) ∧ Kept Nil w w' := by
  unfold putFrame
  split
  · exact frame_ok s w (by assumption)
  · refine (frame_no s w (by assumption) hl).mono ?_
    rintro e w' ⟨rfl, rfl⟩
    exact ⟨rfl, .refl _ _⟩
end Go.Proofs.Ytmlncfnnldplgaa
