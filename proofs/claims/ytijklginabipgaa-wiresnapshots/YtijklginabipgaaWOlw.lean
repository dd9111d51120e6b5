/-
  Joined: WMsW, WMsX, WMsP.
-/
import Derived.Test.YtijklginabipgaaWOlc
import Derived.Test.YtijklginabipgaaWMs0
/-
  A message written (kinds 1, 3, 2, 4, 6, none).
-/
namespace Go.Proofs.Ytijklginabipgaa
open Go.RowKit

theorem wNums2 (b g x0 x1 : Nat) (t : List UInt8) (w : World) (hg : g = w.heap.size) (h : WInv b w t) (h0 : x0 ≤ 1099511627775) (h1 : x1 ≤ 1099511627775) (hl : t.length ≤ 100000000000) :
    Calls Try.prog 141 #[.pointer (some ⟨b, 0, none⟩), .slice (some ⟨g, 0, none⟩) 2 2] (w.alloc (.cells #[.int .i64 x0, .int .i64 x1] 3)) fun e w' => e = .returned (.tuple #[]) ∧ WInv b w' (t ++ encAll [x0, x1]) ∧ Kept (Wr b) (w.alloc (.cells #[.int .i64 x0, .int .i64 x1] 3)) w' := by
  subst hg
  have hb := blk_new w (.cells #[.int .i64 x0, .int .i64 x1] 3)
  have hlt := h.lt
  refine wNumbers_any b w.heap.size 2 _ _ [x0, x1] t _ (h.alloc _) hb (by omega) ?_ (by intro n hn; simp at hn; omega) (by simp) hl
  intro j hj
  simp [intsOf] at hj
  rcases (show j = 0 ∨ j = 1 by omega) with rfl | rfl
  · exact blk_cell hb 0
  · exact blk_cell hb 1


theorem wNums4 (b g x0 x1 x2 x3 : Nat) (t : List UInt8) (w : World) (hg : g = w.heap.size) (h : WInv b w t) (h0 : x0 ≤ 1099511627775) (h1 : x1 ≤ 1099511627775) (h2 : x2 ≤ 1099511627775) (h3 : x3 ≤ 1099511627775) (hl : t.length ≤ 100000000000) :
    Calls Try.prog 141 #[.pointer (some ⟨b, 0, none⟩), .slice (some ⟨g, 0, none⟩) 4 4] (w.alloc (.cells #[.int .i64 x0, .int .i64 x1, .int .i64 x2, .int .i64 x3] 3)) fun e w' => e = .returned (.tuple #[]) ∧ WInv b w' (t ++ encAll [x0, x1, x2, x3]) ∧ Kept (Wr b) (w.alloc (.cells #[.int .i64 x0, .int .i64 x1, .int .i64 x2, .int .i64 x3] 3)) w' := by
  subst hg
  have hb := blk_new w (.cells #[.int .i64 x0, .int .i64 x1, .int .i64 x2, .int .i64 x3] 3)
  have hlt := h.lt
  refine wNumbers_any b w.heap.size 4 _ _ [x0, x1, x2, x3] t _ (h.alloc _) hb (by omega) ?_ (by intro n hn; simp at hn; omega) (by simp) hl
  intro j hj
  simp [intsOf] at hj
  rcases (show j = 0 ∨ j = 1 ∨ j = 2 ∨ j = 3 by omega) with rfl | rfl | rfl | rfl
  · exact blk_cell hb 0
  · exact blk_cell hb 1
  · exact blk_cell hb 2
  · exact blk_cell hb 3


set_option maxRecDepth 100000 in
set_option maxHeartbeats 4000000 in
theorem wMessage_1 (b fr td tm : Nat) (ix lg : Nat) (t : List UInt8) (w : World) (h : WInv b w t) (h_fr : fr ≤ 1099511627775) (h_td : td ≤ 1099511627775) (h_tm : tm ≤ 1099511627775) (h_ix : ix ≤ 1099511627775) (h_lg : lg ≤ 1099511627775) (hl : t.length ≤ 100000000) :
    Calls Try.prog 125 #[.pointer (some ⟨b, 0, none⟩), .agg #[.int .i64 1, .int .i64 fr, .int .i64 td, .int .i64 tm, .int .i64 ix, .int .i64 lg, .int .i64 0, .slice none 0 0, .int .i64 0, .int .i64 0, .slice none 0 0, .slice none 0 0, .slice none 0 0, .string (bs []), .bool false, .int .i64 0, .int .i64 0]] w fun e w' => e = .returned (.tuple #[]) ∧ WInv b w' (t ++ (encAll [1, fr, td, tm] ++ (encAll [ix, lg]))) ∧ Kept (Wr b) w w' := by
  have hlt := h.lt
  have HX : Hid (¬ Wr b w.heap.size (.cells #[.int .i64 1, .int .i64 fr, .int .i64 td, .int .i64 tm, .int .i64 ix, .int .i64 lg, .int .i64 0, .slice none 0 0, .int .i64 0, .int .i64 0, .slice none 0 0, .slice none 0 0, .slice none 0 0, .string (bs []), .bool false, .int .i64 0, .int .i64 0] 85)) := not_wr (Nat.ne_of_gt hlt) (by decide)
  have HB : Hid (_) := blk_past (blk_new w (.cells #[.int .i64 1, .int .i64 fr, .int .i64 td, .int .i64 tm, .int .i64 ix, .int .i64 lg, .int .i64 0, .slice none 0 0, .int .i64 0, .int .i64 0, .slice none 0 0, .slice none 0 0, .slice none 0 0, .string (bs []), .bool false, .int .i64 0, .int .i64 0] 85)) (.cells #[.int .i64 1, .int .i64 fr, .int .i64 td, .int .i64 tm] 3)
  have H1 := wNums4 b (w.heap.size + 1) 1 fr td tm t _ (by simp) (h.alloc (.cells #[.int .i64 1, .int .i64 fr, .int .i64 td, .int .i64 tm, .int .i64 ix, .int .i64 lg, .int .i64 0, .slice none 0 0, .int .i64 0, .int .i64 0, .slice none 0 0, .slice none 0 0, .slice none 0 0, .string (bs []), .bool false, .int .i64 0, .int .i64 0] 85)) (by omega) h_fr h_td h_tm (by omega)
  have HE : Hid ((t ++ (encAll [1, fr, td, tm] ++ (encAll [ix, lg]))) = (t ++ encAll [1, fr, td, tm]) ++ encAll [ix, lg]) := by show _ = _; simp
  rw [HE.out]
  have HL0 : Hid ((encAll [1, fr, td, tm]).length ≤ 24 ∧ t.length ≤ 100000000) := ⟨by have := encAll_len [1, fr, td, tm] (by intro n hn; simp at hn; omega); simpa using this, hl⟩
  have HP0 : Hid (ix ≤ 1099511627775 ∧ lg ≤ 1099511627775 ∧ (encAll [ix, lg]).length ≤ 12) := ⟨h_ix, h_lg, by have := encAll_len [ix, lg] (by intro n hn; simp at hn; omega); simpa using this⟩
  clear hlt h hl h_fr h_td h_tm h_ix h_lg
  go_enter Try.func125, Try.ntmps125
  go_wp2_with fail
  refine H1.mono ?_
  rintro e w1 ⟨rfl, i1, k1⟩
  have X1 : Hid _ := k1.block _ _ HB.out HX.out
  have K1 : Hid (Kept (Wr b) w w1) := (((Kept.refl _ _).alloc _).alloc _).trans k1
  have q1_0 := blk_at X1.out 0 rfl
  have q1_4 := blk_at X1.out 4 rfl
  have q1_5 := blk_at X1.out 5 rfl
  go_wp2_with fail
  refine (wNums2 b w1.heap.size ix lg _ w1 rfl i1 HP0.out.1 HP0.out.2.1 (by have := HL0.out; simp only [List.length_append]; omega)).mono ?_
  rintro e w2 ⟨rfl, i2, k2⟩
  have X2 : Hid _ := k2.block _ _ (blk_past X1.out _) HX.out
  have K2 : Hid (Kept (Wr b) w w2) := (K1.out.alloc _).trans k2
  go_wp2
  go_end0
  exact ⟨rfl, i2, K2.out⟩

set_option maxRecDepth 100000 in
set_option maxHeartbeats 4000000 in
theorem wMessage_3 (b fr td tm : Nat) (ix lg : Nat) (t : List UInt8) (w : World) (h : WInv b w t) (h_fr : fr ≤ 1099511627775) (h_td : td ≤ 1099511627775) (h_tm : tm ≤ 1099511627775) (h_ix : ix ≤ 1099511627775) (h_lg : lg ≤ 1099511627775) (hl : t.length ≤ 100000000) :
    Calls Try.prog 125 #[.pointer (some ⟨b, 0, none⟩), .agg #[.int .i64 3, .int .i64 fr, .int .i64 td, .int .i64 tm, .int .i64 ix, .int .i64 lg, .int .i64 0, .slice none 0 0, .int .i64 0, .int .i64 0, .slice none 0 0, .slice none 0 0, .slice none 0 0, .string (bs []), .bool false, .int .i64 0, .int .i64 0]] w fun e w' => e = .returned (.tuple #[]) ∧ WInv b w' (t ++ (encAll [3, fr, td, tm] ++ (encAll [ix, lg]))) ∧ Kept (Wr b) w w' := by
  have hlt := h.lt
  have HX : Hid (¬ Wr b w.heap.size (.cells #[.int .i64 3, .int .i64 fr, .int .i64 td, .int .i64 tm, .int .i64 ix, .int .i64 lg, .int .i64 0, .slice none 0 0, .int .i64 0, .int .i64 0, .slice none 0 0, .slice none 0 0, .slice none 0 0, .string (bs []), .bool false, .int .i64 0, .int .i64 0] 85)) := not_wr (Nat.ne_of_gt hlt) (by decide)
  have HB : Hid (_) := blk_past (blk_new w (.cells #[.int .i64 3, .int .i64 fr, .int .i64 td, .int .i64 tm, .int .i64 ix, .int .i64 lg, .int .i64 0, .slice none 0 0, .int .i64 0, .int .i64 0, .slice none 0 0, .slice none 0 0, .slice none 0 0, .string (bs []), .bool false, .int .i64 0, .int .i64 0] 85)) (.cells #[.int .i64 3, .int .i64 fr, .int .i64 td, .int .i64 tm] 3)
  have H1 := wNums4 b (w.heap.size + 1) 3 fr td tm t _ (by simp) (h.alloc (.cells #[.int .i64 3, .int .i64 fr, .int .i64 td, .int .i64 tm, .int .i64 ix, .int .i64 lg, .int .i64 0, .slice none 0 0, .int .i64 0, .int .i64 0, .slice none 0 0, .slice none 0 0, .slice none 0 0, .string (bs []), .bool false, .int .i64 0, .int .i64 0] 85)) (by omega) h_fr h_td h_tm (by omega)
  have HE : Hid ((t ++ (encAll [3, fr, td, tm] ++ (encAll [ix, lg]))) = (t ++ encAll [3, fr, td, tm]) ++ encAll [ix, lg]) := by show _ = _; simp
  rw [HE.out]
  have HL0 : Hid ((encAll [3, fr, td, tm]).length ≤ 24 ∧ t.length ≤ 100000000) := ⟨by have := encAll_len [3, fr, td, tm] (by intro n hn; simp at hn; omega); simpa using this, hl⟩
  have HP0 : Hid (ix ≤ 1099511627775 ∧ lg ≤ 1099511627775 ∧ (encAll [ix, lg]).length ≤ 12) := ⟨h_ix, h_lg, by have := encAll_len [ix, lg] (by intro n hn; simp at hn; omega); simpa using this⟩
  clear hlt h hl h_fr h_td h_tm h_ix h_lg
  go_enter Try.func125, Try.ntmps125
  go_wp2_with fail
  refine H1.mono ?_
  rintro e w1 ⟨rfl, i1, k1⟩
  have X1 : Hid _ := k1.block _ _ HB.out HX.out
  have K1 : Hid (Kept (Wr b) w w1) := (((Kept.refl _ _).alloc _).alloc _).trans k1
  have q1_0 := blk_at X1.out 0 rfl
  have q1_4 := blk_at X1.out 4 rfl
  have q1_5 := blk_at X1.out 5 rfl
  go_wp2_with fail
  refine (wNums2 b w1.heap.size ix lg _ w1 rfl i1 HP0.out.1 HP0.out.2.1 (by have := HL0.out; simp only [List.length_append]; omega)).mono ?_
  rintro e w2 ⟨rfl, i2, k2⟩
  have X2 : Hid _ := k2.block _ _ (blk_past X1.out _) HX.out
  have K2 : Hid (Kept (Wr b) w w2) := (K1.out.alloc _).trans k2
  go_wp2
  go_end0
  exact ⟨rfl, i2, K2.out⟩

set_option maxRecDepth 100000 in
set_option maxHeartbeats 4000000 in
theorem wMessage_2 (b fr td tm : Nat) (rj : Bool) (t : List UInt8) (w : World) (h : WInv b w t) (h_fr : fr ≤ 1099511627775) (h_td : td ≤ 1099511627775) (h_tm : tm ≤ 1099511627775) (hl : t.length ≤ 100000000) :
    Calls Try.prog 125 #[.pointer (some ⟨b, 0, none⟩), .agg #[.int .i64 2, .int .i64 fr, .int .i64 td, .int .i64 tm, .int .i64 0, .int .i64 0, .int .i64 0, .slice none 0 0, .int .i64 0, .int .i64 0, .slice none 0 0, .slice none 0 0, .slice none 0 0, .string (bs []), .bool rj, .int .i64 0, .int .i64 0]] w fun e w' => e = .returned (.tuple #[]) ∧ WInv b w' (t ++ (encAll [2, fr, td, tm] ++ (encFlag rj))) ∧ Kept (Wr b) w w' := by
  have hlt := h.lt
  have HX : Hid (¬ Wr b w.heap.size (.cells #[.int .i64 2, .int .i64 fr, .int .i64 td, .int .i64 tm, .int .i64 0, .int .i64 0, .int .i64 0, .slice none 0 0, .int .i64 0, .int .i64 0, .slice none 0 0, .slice none 0 0, .slice none 0 0, .string (bs []), .bool rj, .int .i64 0, .int .i64 0] 85)) := not_wr (Nat.ne_of_gt hlt) (by decide)
  have HB : Hid (_) := blk_past (blk_new w (.cells #[.int .i64 2, .int .i64 fr, .int .i64 td, .int .i64 tm, .int .i64 0, .int .i64 0, .int .i64 0, .slice none 0 0, .int .i64 0, .int .i64 0, .slice none 0 0, .slice none 0 0, .slice none 0 0, .string (bs []), .bool rj, .int .i64 0, .int .i64 0] 85)) (.cells #[.int .i64 2, .int .i64 fr, .int .i64 td, .int .i64 tm] 3)
  have H1 := wNums4 b (w.heap.size + 1) 2 fr td tm t _ (by simp) (h.alloc (.cells #[.int .i64 2, .int .i64 fr, .int .i64 td, .int .i64 tm, .int .i64 0, .int .i64 0, .int .i64 0, .slice none 0 0, .int .i64 0, .int .i64 0, .slice none 0 0, .slice none 0 0, .slice none 0 0, .string (bs []), .bool rj, .int .i64 0, .int .i64 0] 85)) (by omega) h_fr h_td h_tm (by omega)
  have HE : Hid ((t ++ (encAll [2, fr, td, tm] ++ (encFlag rj))) = (t ++ encAll [2, fr, td, tm]) ++ encFlag rj) := by show _ = _; simp
  rw [HE.out]
  have HL0 : Hid ((encAll [2, fr, td, tm]).length ≤ 24 ∧ t.length ≤ 100000000) := ⟨by have := encAll_len [2, fr, td, tm] (by intro n hn; simp at hn; omega); simpa using this, hl⟩
  have HP0 : Hid ((encFlag rj).length = 1) := by show _ = _; cases rj <;> rfl
  clear hlt h hl h_fr h_td h_tm
  go_enter Try.func125, Try.ntmps125
  go_wp2_with fail
  refine H1.mono ?_
  rintro e w1 ⟨rfl, i1, k1⟩
  have X1 : Hid _ := k1.block _ _ HB.out HX.out
  have K1 : Hid (Kept (Wr b) w w1) := (((Kept.refl _ _).alloc _).alloc _).trans k1
  have q1_0 := blk_at X1.out 0 rfl
  have q1_14 := blk_at X1.out 14 rfl
  go_wp2_with fail
  refine (wFlag_any b rj _ w1 i1 (by have := HL0.out; simp only [List.length_append]; omega)).mono ?_
  rintro e w2 ⟨rfl, i2, k2⟩
  have X2 : Hid _ := k2.block _ _ (X1.out) HX.out
  have K2 : Hid (Kept (Wr b) w w2) := K1.out.trans k2
  go_wp2
  go_end0
  exact ⟨rfl, i2, K2.out⟩

set_option maxRecDepth 100000 in
set_option maxHeartbeats 4000000 in
theorem wMessage_4 (b fr td tm : Nat) (rj : Bool) (t : List UInt8) (w : World) (h : WInv b w t) (h_fr : fr ≤ 1099511627775) (h_td : td ≤ 1099511627775) (h_tm : tm ≤ 1099511627775) (hl : t.length ≤ 100000000) :
    Calls Try.prog 125 #[.pointer (some ⟨b, 0, none⟩), .agg #[.int .i64 4, .int .i64 fr, .int .i64 td, .int .i64 tm, .int .i64 0, .int .i64 0, .int .i64 0, .slice none 0 0, .int .i64 0, .int .i64 0, .slice none 0 0, .slice none 0 0, .slice none 0 0, .string (bs []), .bool rj, .int .i64 0, .int .i64 0]] w fun e w' => e = .returned (.tuple #[]) ∧ WInv b w' (t ++ (encAll [4, fr, td, tm] ++ (encFlag rj))) ∧ Kept (Wr b) w w' := by
  have hlt := h.lt
  have HX : Hid (¬ Wr b w.heap.size (.cells #[.int .i64 4, .int .i64 fr, .int .i64 td, .int .i64 tm, .int .i64 0, .int .i64 0, .int .i64 0, .slice none 0 0, .int .i64 0, .int .i64 0, .slice none 0 0, .slice none 0 0, .slice none 0 0, .string (bs []), .bool rj, .int .i64 0, .int .i64 0] 85)) := not_wr (Nat.ne_of_gt hlt) (by decide)
  have HB : Hid (_) := blk_past (blk_new w (.cells #[.int .i64 4, .int .i64 fr, .int .i64 td, .int .i64 tm, .int .i64 0, .int .i64 0, .int .i64 0, .slice none 0 0, .int .i64 0, .int .i64 0, .slice none 0 0, .slice none 0 0, .slice none 0 0, .string (bs []), .bool rj, .int .i64 0, .int .i64 0] 85)) (.cells #[.int .i64 4, .int .i64 fr, .int .i64 td, .int .i64 tm] 3)
  have H1 := wNums4 b (w.heap.size + 1) 4 fr td tm t _ (by simp) (h.alloc (.cells #[.int .i64 4, .int .i64 fr, .int .i64 td, .int .i64 tm, .int .i64 0, .int .i64 0, .int .i64 0, .slice none 0 0, .int .i64 0, .int .i64 0, .slice none 0 0, .slice none 0 0, .slice none 0 0, .string (bs []), .bool rj, .int .i64 0, .int .i64 0] 85)) (by omega) h_fr h_td h_tm (by omega)
  have HE : Hid ((t ++ (encAll [4, fr, td, tm] ++ (encFlag rj))) = (t ++ encAll [4, fr, td, tm]) ++ encFlag rj) := by show _ = _; simp
  rw [HE.out]
  have HL0 : Hid ((encAll [4, fr, td, tm]).length ≤ 24 ∧ t.length ≤ 100000000) := ⟨by have := encAll_len [4, fr, td, tm] (by intro n hn; simp at hn; omega); simpa using this, hl⟩
  have HP0 : Hid ((encFlag rj).length = 1) := by show _ = _; cases rj <;> rfl
  clear hlt h hl h_fr h_td h_tm
  go_enter Try.func125, Try.ntmps125
  go_wp2_with fail
  refine H1.mono ?_
  rintro e w1 ⟨rfl, i1, k1⟩
  have X1 : Hid _ := k1.block _ _ HB.out HX.out
  have K1 : Hid (Kept (Wr b) w w1) := (((Kept.refl _ _).alloc _).alloc _).trans k1
  have q1_0 := blk_at X1.out 0 rfl
  have q1_14 := blk_at X1.out 14 rfl
  go_wp2_with fail
  refine (wFlag_any b rj _ w1 i1 (by have := HL0.out; simp only [List.length_append]; omega)).mono ?_
  rintro e w2 ⟨rfl, i2, k2⟩
  have X2 : Hid _ := k2.block _ _ (X1.out) HX.out
  have K2 : Hid (Kept (Wr b) w w2) := K1.out.trans k2
  go_wp2
  go_end0
  exact ⟨rfl, i2, K2.out⟩

set_option maxRecDepth 100000 in
set_option maxHeartbeats 4000000 in
theorem wMessage_6 (b fr td tm : Nat) (ix hn cx : Nat) (rj : Bool) (t : List UInt8) (w : World) (h : WInv b w t) (h_fr : fr ≤ 1099511627775) (h_td : td ≤ 1099511627775) (h_tm : tm ≤ 1099511627775) (h_ix : ix ≤ 1099511627775) (h_hn : hn ≤ 1099511627775) (h_cx : cx ≤ 1099511627775) (hl : t.length ≤ 100000000) :
    Calls Try.prog 125 #[.pointer (some ⟨b, 0, none⟩), .agg #[.int .i64 6, .int .i64 fr, .int .i64 td, .int .i64 tm, .int .i64 ix, .int .i64 0, .int .i64 0, .slice none 0 0, .int .i64 0, .int .i64 0, .slice none 0 0, .slice none 0 0, .slice none 0 0, .string (bs []), .bool rj, .int .i64 hn, .int .i64 cx]] w fun e w' => e = .returned (.tuple #[]) ∧ WInv b w' (t ++ (encAll [6, fr, td, tm] ++ (enc ix ++ encFlag rj ++ encAll [hn, cx]))) ∧ Kept (Wr b) w w' := by
  have hlt := h.lt
  have HX : Hid (¬ Wr b w.heap.size (.cells #[.int .i64 6, .int .i64 fr, .int .i64 td, .int .i64 tm, .int .i64 ix, .int .i64 0, .int .i64 0, .slice none 0 0, .int .i64 0, .int .i64 0, .slice none 0 0, .slice none 0 0, .slice none 0 0, .string (bs []), .bool rj, .int .i64 hn, .int .i64 cx] 85)) := not_wr (Nat.ne_of_gt hlt) (by decide)
  have HB : Hid (_) := blk_past (blk_new w (.cells #[.int .i64 6, .int .i64 fr, .int .i64 td, .int .i64 tm, .int .i64 ix, .int .i64 0, .int .i64 0, .slice none 0 0, .int .i64 0, .int .i64 0, .slice none 0 0, .slice none 0 0, .slice none 0 0, .string (bs []), .bool rj, .int .i64 hn, .int .i64 cx] 85)) (.cells #[.int .i64 6, .int .i64 fr, .int .i64 td, .int .i64 tm] 3)
  have H1 := wNums4 b (w.heap.size + 1) 6 fr td tm t _ (by simp) (h.alloc (.cells #[.int .i64 6, .int .i64 fr, .int .i64 td, .int .i64 tm, .int .i64 ix, .int .i64 0, .int .i64 0, .slice none 0 0, .int .i64 0, .int .i64 0, .slice none 0 0, .slice none 0 0, .slice none 0 0, .string (bs []), .bool rj, .int .i64 hn, .int .i64 cx] 85)) (by omega) h_fr h_td h_tm (by omega)
  have HE : Hid ((t ++ (encAll [6, fr, td, tm] ++ (enc ix ++ encFlag rj ++ encAll [hn, cx]))) = (((t ++ encAll [6, fr, td, tm]) ++ enc ix) ++ encFlag rj) ++ encAll [hn, cx]) := by show _ = _; simp
  rw [HE.out]
  have HL0 : Hid ((encAll [6, fr, td, tm]).length ≤ 24 ∧ t.length ≤ 100000000) := ⟨by have := encAll_len [6, fr, td, tm] (by intro n hn; simp at hn; omega); simpa using this, hl⟩
  have HP0 : Hid (ix ≤ 1099511627775 ∧ (enc ix).length ≤ 6) := ⟨h_ix, enc_len6 h_ix⟩
  have HP1 : Hid ((encFlag rj).length = 1) := by show _ = _; cases rj <;> rfl
  have HP2 : Hid (hn ≤ 1099511627775 ∧ cx ≤ 1099511627775 ∧ (encAll [hn, cx]).length ≤ 12) := ⟨h_hn, h_cx, by have := encAll_len [hn, cx] (by intro n hn; simp at hn; omega); simpa using this⟩
  clear hlt h hl h_fr h_td h_tm h_ix h_hn h_cx
  go_enter Try.func125, Try.ntmps125
  go_wp2_with fail
  refine H1.mono ?_
  rintro e w1 ⟨rfl, i1, k1⟩
  have X1 : Hid _ := k1.block _ _ HB.out HX.out
  have K1 : Hid (Kept (Wr b) w w1) := (((Kept.refl _ _).alloc _).alloc _).trans k1
  have q1_0 := blk_at X1.out 0 rfl
  have q1_4 := blk_at X1.out 4 rfl
  go_wp2_with fail
  refine (wNumber_any b ix _ w1 i1 HP0.out.1 (by have := HL0.out; simp only [List.length_append]; omega)).mono ?_
  rintro e w2 ⟨rfl, i2, k2⟩
  have X2 : Hid _ := k2.block _ _ (X1.out) HX.out
  have K2 : Hid (Kept (Wr b) w w2) := K1.out.trans k2
  have q2_14 := blk_at X2.out 14 rfl
  go_wp2_with fail
  refine (wFlag_any b rj _ w2 i2 (by have := HL0.out; have := HP0.out; simp only [List.length_append]; omega)).mono ?_
  rintro e w3 ⟨rfl, i3, k3⟩
  have X3 : Hid _ := k3.block _ _ (X2.out) HX.out
  have K3 : Hid (Kept (Wr b) w w3) := K2.out.trans k3
  have q3_15 := blk_at X3.out 15 rfl
  have q3_16 := blk_at X3.out 16 rfl
  go_wp2_with fail
  refine (wNums2 b w3.heap.size hn cx _ w3 rfl i3 HP2.out.1 HP2.out.2.1 (by have := HL0.out; have := HP0.out; have := HP1.out; simp only [List.length_append]; omega)).mono ?_
  rintro e w4 ⟨rfl, i4, k4⟩
  have X4 : Hid _ := k4.block _ _ (blk_past X3.out _) HX.out
  have K4 : Hid (Kept (Wr b) w w4) := (K3.out.alloc _).trans k4
  go_wp2
  go_end0
  exact ⟨rfl, i4, K4.out⟩

set_option maxRecDepth 100000 in
set_option maxHeartbeats 4000000 in
theorem wMessage_o (b fr td tm : Nat) (kd : Nat)  (t : List UInt8) (w : World) (h : WInv b w t) (hk : kd = 0 ∨ 7 < kd) (h_kd : kd ≤ 1099511627775) (h_fr : fr ≤ 1099511627775) (h_td : td ≤ 1099511627775) (h_tm : tm ≤ 1099511627775) (hl : t.length ≤ 100000000) :
    Calls Try.prog 125 #[.pointer (some ⟨b, 0, none⟩), .agg #[.int .i64 kd, .int .i64 fr, .int .i64 td, .int .i64 tm, .int .i64 0, .int .i64 0, .int .i64 0, .slice none 0 0, .int .i64 0, .int .i64 0, .slice none 0 0, .slice none 0 0, .slice none 0 0, .string (bs []), .bool false, .int .i64 0, .int .i64 0]] w fun e w' => e = .returned (.tuple #[]) ∧ WInv b w' (t ++ (encAll [kd, fr, td, tm] ++ ([]))) ∧ Kept (Wr b) w w' := by
  have hlt := h.lt
  have HX : Hid (¬ Wr b w.heap.size (.cells #[.int .i64 kd, .int .i64 fr, .int .i64 td, .int .i64 tm, .int .i64 0, .int .i64 0, .int .i64 0, .slice none 0 0, .int .i64 0, .int .i64 0, .slice none 0 0, .slice none 0 0, .slice none 0 0, .string (bs []), .bool false, .int .i64 0, .int .i64 0] 85)) := not_wr (Nat.ne_of_gt hlt) (by decide)
  have HB : Hid (_) := blk_past (blk_new w (.cells #[.int .i64 kd, .int .i64 fr, .int .i64 td, .int .i64 tm, .int .i64 0, .int .i64 0, .int .i64 0, .slice none 0 0, .int .i64 0, .int .i64 0, .slice none 0 0, .slice none 0 0, .slice none 0 0, .string (bs []), .bool false, .int .i64 0, .int .i64 0] 85)) (.cells #[.int .i64 kd, .int .i64 fr, .int .i64 td, .int .i64 tm] 3)
  have H1 := wNums4 b (w.heap.size + 1) kd fr td tm t _ (by simp) (h.alloc (.cells #[.int .i64 kd, .int .i64 fr, .int .i64 td, .int .i64 tm, .int .i64 0, .int .i64 0, .int .i64 0, .slice none 0 0, .int .i64 0, .int .i64 0, .slice none 0 0, .slice none 0 0, .slice none 0 0, .string (bs []), .bool false, .int .i64 0, .int .i64 0] 85)) h_kd h_fr h_td h_tm (by omega)
  have HE : Hid ((t ++ (encAll [kd, fr, td, tm] ++ ([]))) = t ++ encAll [kd, fr, td, tm]) := by show _ = _; simp
  rw [HE.out]
  have HL0 : Hid ((encAll [kd, fr, td, tm]).length ≤ 24 ∧ t.length ≤ 100000000) := ⟨by have := encAll_len [kd, fr, td, tm] (by intro n hn; simp at hn; omega); simpa using this, hl⟩
  have k1 : ((kd : Int) == 1) = false := by simp; omega
  have k2 : ((kd : Int) == 2) = false := by simp; omega
  have k3 : ((kd : Int) == 3) = false := by simp; omega
  have k4 : ((kd : Int) == 4) = false := by simp; omega
  have k5 : ((kd : Int) == 5) = false := by simp; omega
  have k6 : ((kd : Int) == 6) = false := by simp; omega
  have k7 : ((kd : Int) == 7) = false := by simp; omega
  clear hlt h hl hk h_kd h_fr h_td h_tm
  go_enter Try.func125, Try.ntmps125
  go_wp2_with fail
  refine H1.mono ?_
  rintro e w1 ⟨rfl, i1, k1⟩
  have X1 : Hid _ := k1.block _ _ HB.out HX.out
  have K1 : Hid (Kept (Wr b) w w1) := (((Kept.refl _ _).alloc _).alloc _).trans k1
  have q1_0 := blk_at X1.out 0 rfl
  go_wp2
  go_end0
  exact ⟨rfl, i1, K1.out⟩

end Go.Proofs.Ytijklginabipgaa

/-
  A message written (kinds 5 and 7).
-/
namespace Go.Proofs.Ytijklginabipgaa
open Go.RowKit

set_option maxRecDepth 100000 in
set_option maxHeartbeats 4000000 in
theorem wMessage_5 (b fr td tm : Nat) (ix lg cm cx : Nat) (ae : Option Addr) (B ce : Nat) (es : List En) (t : List UInt8) (w : World) (h : WInv b w t) (hr : EntRow B w ae es) (hB : B ≤ b) (he : ∀ e ∈ es, e.ok = true) (h8 : es.length ≤ 8) (h_fr : fr ≤ 1099511627775) (h_td : td ≤ 1099511627775) (h_tm : tm ≤ 1099511627775) (h_ix : ix ≤ 1099511627775) (h_lg : lg ≤ 1099511627775) (h_cm : cm ≤ 1099511627775) (h_cx : cx ≤ 1099511627775) (hl : t.length ≤ 100000000) :
    Calls Try.prog 125 #[.pointer (some ⟨b, 0, none⟩), .agg #[.int .i64 5, .int .i64 fr, .int .i64 td, .int .i64 tm, .int .i64 ix, .int .i64 lg, .int .i64 cm, .slice ae es.length ce, .int .i64 0, .int .i64 0, .slice none 0 0, .slice none 0 0, .slice none 0 0, .string (bs []), .bool false, .int .i64 0, .int .i64 cx]] w fun e w' => e = .returned (.tuple #[]) ∧ WInv b w' (t ++ (encAll [5, fr, td, tm] ++ (encAll [ix, lg, cm, cx] ++ encList encEn es))) ∧ Kept (Wr b) w w' := by
  have hlt := h.lt
  have HX : Hid (¬ Wr b w.heap.size (.cells #[.int .i64 5, .int .i64 fr, .int .i64 td, .int .i64 tm, .int .i64 ix, .int .i64 lg, .int .i64 cm, .slice ae es.length ce, .int .i64 0, .int .i64 0, .slice none 0 0, .slice none 0 0, .slice none 0 0, .string (bs []), .bool false, .int .i64 0, .int .i64 cx] 85)) := not_wr (Nat.ne_of_gt hlt) (by decide)
  have HB : Hid (_) := blk_past (blk_new w (.cells #[.int .i64 5, .int .i64 fr, .int .i64 td, .int .i64 tm, .int .i64 ix, .int .i64 lg, .int .i64 cm, .slice ae es.length ce, .int .i64 0, .int .i64 0, .slice none 0 0, .slice none 0 0, .slice none 0 0, .string (bs []), .bool false, .int .i64 0, .int .i64 cx] 85)) (.cells #[.int .i64 5, .int .i64 fr, .int .i64 td, .int .i64 tm] 3)
  have H1 := wNums4 b (w.heap.size + 1) 5 fr td tm t _ (by simp) (h.alloc (.cells #[.int .i64 5, .int .i64 fr, .int .i64 td, .int .i64 tm, .int .i64 ix, .int .i64 lg, .int .i64 cm, .slice ae es.length ce, .int .i64 0, .int .i64 0, .slice none 0 0, .slice none 0 0, .slice none 0 0, .string (bs []), .bool false, .int .i64 0, .int .i64 cx] 85)) (by omega) h_fr h_td h_tm (by omega)
  have HE : Hid ((t ++ (encAll [5, fr, td, tm] ++ (encAll [ix, lg, cm, cx] ++ encList encEn es))) = ((t ++ encAll [5, fr, td, tm]) ++ encAll [ix, lg, cm, cx]) ++ encList encEn es) := by show _ = _; simp
  rw [HE.out]
  have HL0 : Hid ((encAll [5, fr, td, tm]).length ≤ 24 ∧ t.length ≤ 100000000) := ⟨by have := encAll_len [5, fr, td, tm] (by intro n hn; simp at hn; omega); simpa using this, hl⟩
  have HR : Hid (EntRow B w ae es ∧ B ≤ b ∧ (∀ e ∈ es, e.ok = true) ∧ es.length ≤ 8) := ⟨hr, hB, he, h8⟩
  have HP0 : Hid (ix ≤ 1099511627775 ∧ lg ≤ 1099511627775 ∧ cm ≤ 1099511627775 ∧ cx ≤ 1099511627775 ∧ (encAll [ix, lg, cm, cx]).length ≤ 24) := ⟨h_ix, h_lg, h_cm, h_cx, by have := encAll_len [ix, lg, cm, cx] (by intro n hn; simp at hn; omega); simpa using this⟩
  clear hlt h hl hr hB he h8 h_fr h_td h_tm h_ix h_lg h_cm h_cx
  go_enter Try.func125, Try.ntmps125
  go_wp2_with fail
  refine H1.mono ?_
  rintro e w1 ⟨rfl, i1, k1⟩
  have X1 : Hid _ := k1.block _ _ HB.out HX.out
  have K1 : Hid (Kept (Wr b) w w1) := (((Kept.refl _ _).alloc _).alloc _).trans k1
  have q1_0 := blk_at X1.out 0 rfl
  have q1_4 := blk_at X1.out 4 rfl
  have q1_5 := blk_at X1.out 5 rfl
  have q1_6 := blk_at X1.out 6 rfl
  have q1_16 := blk_at X1.out 16 rfl
  go_wp2_with fail
  refine (wNums4 b w1.heap.size ix lg cm cx _ w1 rfl i1 HP0.out.1 HP0.out.2.1 HP0.out.2.2.1 HP0.out.2.2.2.1 (by have := HL0.out; simp only [List.length_append]; omega)).mono ?_
  rintro e w2 ⟨rfl, i2, k2⟩
  have X2 : Hid _ := k2.block _ _ (blk_past X1.out _) HX.out
  have K2 : Hid (Kept (Wr b) w w2) := (K1.out.alloc _).trans k2
  have q2_7 := blk_at X2.out 7 rfl
  go_wp2_with fail
  refine (putListEn_any b B ce ae es _ w2 i2 (HR.out.1.kept K2.out (fun _ _ h => not_below HR.out.2.1 h)) HR.out.2.1 HR.out.2.2.1 HR.out.2.2.2 (by have := HL0.out; have := HP0.out; simp only [List.length_append]; omega)).mono ?_
  rintro e w3 ⟨rfl, i3, k3⟩
  have X3 : Hid _ := k3.block _ _ (X2.out) HX.out
  have K3 : Hid (Kept (Wr b) w w3) := K2.out.trans k3
  go_wp2
  go_end0
  exact ⟨rfl, i3, K3.out⟩

set_option maxRecDepth 100000 in
set_option maxHeartbeats 4000000 in
theorem wMessage_7 (b fr td tm : Nat) (cx si st B c1 c2 c3 : Nat) (a1 a2 a3 : Option Addr) (v n l : List Nat) (dt : List UInt8) (t : List UInt8) (w : World) (h : WInv b w t) (hr : CfRows B w a1 a2 a3 (intsOf v) (intsOf n) (intsOf l)) (hB : B ≤ b) (f1 : Few v) (f2 : Few n) (f3 : Few l) (g1 : si ≤ 1099511627775) (g2 : st ≤ 1099511627775) (g3 : dt.length ≤ 8192) (h_fr : fr ≤ 1099511627775) (h_td : td ≤ 1099511627775) (h_tm : tm ≤ 1099511627775) (h_cx : cx ≤ 1099511627775) (hl : t.length ≤ 100000000) :
    Calls Try.prog 125 #[.pointer (some ⟨b, 0, none⟩), .agg #[.int .i64 7, .int .i64 fr, .int .i64 td, .int .i64 tm, .int .i64 0, .int .i64 0, .int .i64 0, .slice none 0 0, .int .i64 si, .int .i64 st, .slice a1 v.length c1, .slice a2 n.length c2, .slice a3 l.length c3, .string (bs dt), .bool false, .int .i64 0, .int .i64 cx]] w fun e w' => e = .returned (.tuple #[]) ∧ WInv b w' (t ++ (encAll [7, fr, td, tm] ++ (enc cx ++ encSnap si st v n l dt))) ∧ Kept (Wr b) w w' := by
  have hlt := h.lt
  have HX : Hid (¬ Wr b w.heap.size (.cells #[.int .i64 7, .int .i64 fr, .int .i64 td, .int .i64 tm, .int .i64 0, .int .i64 0, .int .i64 0, .slice none 0 0, .int .i64 si, .int .i64 st, .slice a1 v.length c1, .slice a2 n.length c2, .slice a3 l.length c3, .string (bs dt), .bool false, .int .i64 0, .int .i64 cx] 85)) := not_wr (Nat.ne_of_gt hlt) (by decide)
  have HB : Hid (_) := blk_past (blk_new w (.cells #[.int .i64 7, .int .i64 fr, .int .i64 td, .int .i64 tm, .int .i64 0, .int .i64 0, .int .i64 0, .slice none 0 0, .int .i64 si, .int .i64 st, .slice a1 v.length c1, .slice a2 n.length c2, .slice a3 l.length c3, .string (bs dt), .bool false, .int .i64 0, .int .i64 cx] 85)) (.cells #[.int .i64 7, .int .i64 fr, .int .i64 td, .int .i64 tm] 3)
  have H1 := wNums4 b (w.heap.size + 1) 7 fr td tm t _ (by simp) (h.alloc (.cells #[.int .i64 7, .int .i64 fr, .int .i64 td, .int .i64 tm, .int .i64 0, .int .i64 0, .int .i64 0, .slice none 0 0, .int .i64 si, .int .i64 st, .slice a1 v.length c1, .slice a2 n.length c2, .slice a3 l.length c3, .string (bs dt), .bool false, .int .i64 0, .int .i64 cx] 85)) (by omega) h_fr h_td h_tm (by omega)
  have HE : Hid ((t ++ (encAll [7, fr, td, tm] ++ (enc cx ++ encSnap si st v n l dt))) = ((t ++ encAll [7, fr, td, tm]) ++ enc cx) ++ encSnap si st v n l dt) := by show _ = _; simp
  rw [HE.out]
  have HL0 : Hid ((encAll [7, fr, td, tm]).length ≤ 24 ∧ t.length ≤ 100000000) := ⟨by have := encAll_len [7, fr, td, tm] (by intro n hn; simp at hn; omega); simpa using this, hl⟩
  have HR : Hid (CfRows B w a1 a2 a3 (intsOf v) (intsOf n) (intsOf l) ∧ B ≤ b ∧ (Few v ∧ Few n ∧ Few l) ∧ si ≤ 1099511627775 ∧ st ≤ 1099511627775 ∧ dt.length ≤ 8192) := ⟨hr, hB, ⟨f1, f2, f3⟩, g1, g2, g3⟩
  have HP0 : Hid (cx ≤ 1099511627775 ∧ (enc cx).length ≤ 6) := ⟨h_cx, enc_len6 h_cx⟩
  clear hlt h hl hr hB f1 f2 f3 g1 g2 g3 h_fr h_td h_tm h_cx
  go_enter Try.func125, Try.ntmps125
  go_wp2_with fail
  refine H1.mono ?_
  rintro e w1 ⟨rfl, i1, k1⟩
  have X1 : Hid _ := k1.block _ _ HB.out HX.out
  have K1 : Hid (Kept (Wr b) w w1) := (((Kept.refl _ _).alloc _).alloc _).trans k1
  have q1_0 := blk_at X1.out 0 rfl
  have q1_16 := blk_at X1.out 16 rfl
  go_wp2_with fail
  refine (wNumber_any b cx _ w1 i1 HP0.out.1 (by have := HL0.out; simp only [List.length_append]; omega)).mono ?_
  rintro e w2 ⟨rfl, i2, k2⟩
  have X2 : Hid _ := k2.block _ _ (X1.out) HX.out
  have K2 : Hid (Kept (Wr b) w w2) := K1.out.trans k2
  have q2_8 := blk_at X2.out 8 rfl
  have q2_9 := blk_at X2.out 9 rfl
  have q2_10 := blk_at X2.out 10 rfl
  have q2_11 := blk_at X2.out 11 rfl
  have q2_12 := blk_at X2.out 12 rfl
  have q2_13 := blk_at X2.out 13 rfl
  go_wp2_with fail
  refine (wSnapshot_any b B si st c1 c2 c3 a1 a2 a3 v n l dt _ w2 i2 (HR.out.1.kept K2.out (fun _ _ h => not_below HR.out.2.1 h)) HR.out.2.1 HR.out.2.2.1.1 HR.out.2.2.1.2.1 HR.out.2.2.1.2.2 HR.out.2.2.2.1 HR.out.2.2.2.2.1 HR.out.2.2.2.2.2 (by have := HL0.out; have := HP0.out; simp only [List.length_append]; omega)).mono ?_
  rintro e w3 ⟨rfl, i3, k3⟩
  have X3 : Hid _ := k3.block _ _ (X2.out) HX.out
  have K3 : Hid (Kept (Wr b) w w3) := K2.out.trans k3
  go_wp2
  go_end0
  exact ⟨rfl, i3, K3.out⟩

end Go.Proofs.Ytijklginabipgaa

/-
  A message as bytes: wire.write and PutMessage at messages, whatever their cells are.
-/
namespace Go.Proofs.Ytijklginabipgaa
open Go.RowKit

set_option maxRecDepth 100000 in
set_option maxHeartbeats 2000000 in
theorem writeMsg_ok (cs : Array Value) (hs : cs.size = 17) (bytes : List UInt8) (c : Int) (w : World)
    (HW : ∀ b w', Kept Nil w w' → w.heap.size ≤ b → WInv b w' [] → Calls Try.prog 125 #[.pointer (some ⟨b, 0, none⟩), .agg cs] w' fun e w'' => e = .returned (.tuple #[]) ∧ WInv b w'' bytes ∧ Kept (Wr b) w' w'') :
    Calls Try.prog 123 #[.agg cs, .bool true, .int .i64 c, .func (.func 125) #[] #[]] w fun e w' => e = .returned (.tuple #[.string (bs bytes), .int .i64 0]) ∧ Kept Nil w w' := by
  have hw := winv_new (w.alloc (.cells cs 85))
  have es : (w.alloc (.cells cs 85)).heap.size = w.heap.size + 1 := by simp
  rw [es] at hw
  have H1 := HW (w.heap.size + 1) _ (((Kept.refl _ _).alloc _).alloc _) (by omega) hw
  clear hw es HW
  go_enter Try.func123, Try.ntmps123
  go_wp2_with (with_reducible refine atLoad 85 ?_; go_must (refine wpList_loadW rfl _ _ rfl _ rfl cs _ _ (blk_past (blk_new w _) _) Try.underlying85 rfl Try.sizeMsg hs ?_))
  refine H1.mono ?_
  rintro e w1 ⟨rfl, ⟨ao, c', hb, ho⟩, hk⟩
  have h0 := blk_at hb 0 rfl
  have hcv := conv_own ho
  go_wp2
  go_ret2
  exact ⟨rfl, hk.belowWr⟩

set_option maxRecDepth 100000 in
theorem writeMsg_no (cs : Array Value) (w : World) (c : Int) (f : Value) :
    Calls Try.prog 123 #[.agg cs, .bool false, .int .i64 c, f] w fun e w' => e = .returned (.tuple #[.string (bs []), .int .i64 c]) ∧ Kept Nil w w' := by
  go_enter Try.func123, Try.ntmps123
  go_wp2
  go_ret2
  exact ⟨rfl, (Kept.refl _ _).alloc _⟩

set_option maxRecDepth 100000 in
set_option maxHeartbeats 4000000 in
theorem putMessage_gen (x0 x1 x2 x3 x4 x5 x6 x7 x8 x9 x10 x11 x12 x13 x14 x15 x16 : Value) (okb : Bool) (p1 : List UInt8) (p2 : Int) (w : World)
    (H1 : ∀ w', Kept Nil w w' → Calls Try.prog 124 #[.agg #[x0, x1, x2, x3, x4, x5, x6, x7, x8, x9, x10, x11, x12, x13, x14, x15, x16]] w' fun e w'' => e = .returned (.bool okb) ∧ Kept Nil w' w'')
    (H2 : ∀ w', Kept Nil w w' → Calls Try.prog 123 #[.agg #[x0, x1, x2, x3, x4, x5, x6, x7, x8, x9, x10, x11, x12, x13, x14, x15, x16], .bool okb, .int .i64 7, .func (.func 125) #[] #[]] w' fun e w'' => e = .returned (.tuple #[.string (bs p1), .int .i64 p2]) ∧ Kept Nil w' w'') :
    Calls Try.prog 59 #[.agg #[x0, x1, x2, x3, x4, x5, x6, x7, x8, x9, x10, x11, x12, x13, x14, x15, x16]] w fun e w' => e = .returned (.tuple #[.string (bs p1), .int .i64 p2]) ∧ Kept Nil w w' := by
  have HB : Hid ((w.alloc (.cells #[x0, x1, x2, x3, x4, x5, x6, x7, x8, x9, x10, x11, x12, x13, x14, x15, x16] 85)).drew.heap[w.heap.size]? = some (.cells #[x0, x1, x2, x3, x4, x5, x6, x7, x8, x9, x10, x11, x12, x13, x14, x15, x16] 85 (0, 0))) := blk_new w (.cells #[x0, x1, x2, x3, x4, x5, x6, x7, x8, x9, x10, x11, x12, x13, x14, x15, x16] 85)
  have HK : Hid (Kept Nil w (w.alloc (.cells #[x0, x1, x2, x3, x4, x5, x6, x7, x8, x9, x10, x11, x12, x13, x14, x15, x16] 85)).drew) := ((Kept.refl _ _).alloc _).drew
  go_enter Try.func59, Try.ntmps59
  go_wp2
  go_region_with (first | (go_at_call 124; go_must (refine (H1 _ HK.out).mono ?_); rintro e w1 ⟨rfl, k1⟩; have X1 := k1.block _ _ HB.out (fun x => x.elim); have q0 := blk_at X1 0 rfl; have q1 := blk_at X1 1 rfl; have q2 := blk_at X1 2 rfl; have q3 := blk_at X1 3 rfl; have q4 := blk_at X1 4 rfl; have q5 := blk_at X1 5 rfl; have q6 := blk_at X1 6 rfl; have q7 := blk_at X1 7 rfl; have q8 := blk_at X1 8 rfl; have q9 := blk_at X1 9 rfl; have q10 := blk_at X1 10 rfl; have q11 := blk_at X1 11 rfl; have q12 := blk_at X1 12 rfl; have q13 := blk_at X1 13 rfl; have q14 := blk_at X1 14 rfl; have q15 := blk_at X1 15 rfl; have q16 := blk_at X1 16 rfl; have HK1 : Hid (Kept Nil w w1) := HK.out.trans k1; clear X1) | (go_at_call 123; go_must (refine (H2 _ HK1.out).mono ?_); rintro e w2 ⟨rfl, k2⟩))
  all_goals go_wp2
  all_goals go_ret2
  all_goals exact ⟨rfl, HK1.out.trans k2⟩

end Go.Proofs.Ytijklginabipgaa
