/-
  Joined: WWrite, WCrc, WSum, WRef.
-/
import Derived.Test.YtpfgnhockfofhaaGreatProg
import Derived.Test.YtpfgnhockfofhaaGreatH00
import Derived.OwnWalk
import Derived.Deep.DeepMust
import Derived.Outline
import Derived.Laws.BitsAllLaws
/-
  What the program's writer does, method by method: its bytes behind each call, and what it leaves of memory.
-/
namespace Go.Proofs.YtpfgnhockfofhaaGreat
open Go.RowKit

def cellsOf (l : List UInt8) : List Value := l.map fun c => Value.int .u8 c.toNat
theorem cellsOf_append (a b : List UInt8) : cellsOf (a ++ b) = cellsOf a ++ cellsOf b := by simp [cellsOf]

/-- The writer in block b has these bytes. -/
def WInv (b : Nat) (w : World) (l : List UInt8) : Prop :=
  ∃ ao c, w.heap[b]? = some (.cells #[.slice ao l.length c] 161 (0, 0)) ∧ w.ownsRow (b + 1) 5 1 (.slice ao l.length c) l.length (cellsOf l)
/-- What a writer's method may turn: its own block, and rows of bytes behind it. -/
def Wr (b : Nat) : Nat → Obj → Prop := fun k o => k = b ∨ (b < k ∧ ∃ cs m, o = .cells cs 5 m)

theorem Tryz.infoByte : (Tryz.prog.info? 5).map (fun i => (i.zero, i.size, i.bytes)) = some (some (.int .u8 0), 1, 1) := by kernel_rfl

theorem Kept.grownOwn {b : Nat} {w w' : World} {v : Value} {n : Nat} {xs : List Value} (hg : w.grownBy w' v.ownBlock) (ho : w.ownsRow (b + 1) 5 1 v n xs) : Kept (Wr b) w w' := by
  refine ⟨hg.os, hg.tape, hg.output, hg.size, fun k o hk hx => ?_⟩
  have hlt := lt_of_block hk
  rw [hg.block k hlt ?_, hk]
  intro e
  rcases ho.2 with ⟨rfl, _⟩ | ⟨g, cap, cur, rfl, hb, hh, _⟩
  · simp [Value.ownBlock] at e
  · simp [Value.ownBlock] at e
    subst e
    rw [hh] at hk
    exact hx (.inr ⟨by omega, cur, (0, 0), by simpa using hk.symm⟩)

/-- Behind an append and the store of its slice. -/
theorem WInv.put {b : Nat} {w w1 : World} {l news : List UInt8} {ao ao' : Option Addr} {c c' m : Nat} (hb : w.heap[b]? = some (.cells #[.slice ao l.length c] 161 (0, 0)))
    (ho : w.ownsRow (b + 1) 5 1 (.slice ao l.length c) l.length (cellsOf l)) (hm : m = news.length)
    (hn : w1.ownsRow (b + 1) 5 1 (.slice ao' (l.length + m) c') (l.length + m) (cellsOf l ++ cellsOf news)) (hg : w.grownBy w1 (Value.slice ao l.length c).ownBlock) :
    WInv b (w1.setCell ⟨b, 0, none⟩ (.slice ao' (l.length + m) c')) (l ++ news) ∧ Kept (Wr b) w (w1.setCell ⟨b, 0, none⟩ (.slice ao' (l.length + m) c')) := by
  subst hm
  have hk := Kept.grownOwn hg ho
  have hb1 : w1.heap[b]? = some (.cells #[.slice ao l.length c] 161 (0, 0)) := by
    rw [hg.block b (lt_of_block hb) ?_, hb]
    intro e
    have := (ho.lt b e.symm).1
    omega
  refine ⟨⟨ao', c', ?_, ?_⟩, hk.setCell (fun _ => .inl rfl) _⟩
  · have := blk_set hb1 0 (.slice ao' (l.length + news.length) c')
    simpa using this
  · rw [cellsOf_append]
    have := ownsRow_setCell_below hn (a := ⟨b, 0, none⟩) (by simp) (.slice ao' (l.length + news.length) c')
    simpa using this

theorem after_grow {b : Nat} {w w1 : World} {v : Value} {n : Nat} {xs : List Value} {o : Obj} (hb : w.heap[b]? = some o) (ho : w.ownsRow (b + 1) 5 1 v n xs) (hg : w.grownBy w1 v.ownBlock) : w1.heap[b]? = some o := by
  rw [hg.block b (lt_of_block hb) ?_, hb]
  intro e
  have := (ho.lt b e.symm).1
  omega
theorem le_alloc {w : World} {n : Nat} (h : n ≤ w.heap.size) (o : Obj) : n ≤ (w.alloc o).heap.size := by simp; omega

/-- One byte, laid in a block of its own, as what is appended. -/
theorem src_one {w : World} (d : UInt8) {y : Int} (hy : y = d.toNat) : Src Tryz.prog 1 127 (.slice (some ⟨w.heap.size, 0, none⟩) 1 1) 1 (cellsOf [d]) (w.alloc (.cells #[.int .u8 y] 5)) := by
  subst hy
  refine Src.ofSlice _ Tryz.underlying127 _ 1 1 _ rfl ?_ ?_
  · intro j u hj
    match j, hj with
    | 0, hj =>
      simp [cellsOf] at hj
      subst hj
      simp [Addr.add]
  · intro u hu
    simp [cellsOf] at hu
    subst hu
    rfl

set_option maxRecDepth 100000 in
set_option maxHeartbeats 1000000 in
theorem wNumber_any (b n : Nat) (l : List UInt8) (w : World) (h : WInv b w l) (hn : n ≤ 1099511627775) (hl : l.length ≤ 1099511627775) :
    Calls Tryz.prog 104 #[.pointer (some ⟨b, 0, none⟩), .int .i64 n] w fun e w' => e = .returned (.tuple #[]) ∧ WInv b w' (l ++ enc n) ∧ Kept (Wr b) w w' := by
  obtain ⟨i0, hi, hz0, hz1, hz2⟩ := info_parts Tryz.infoByte
  have hn' : (n : Int) ≤ 1099511627775 := by omega
  have HN : Hid ((enc n).length ≤ 6) := enc_len6 hn
  have HL : Hid (l.length ≤ 1099511627775) := hl
  clear hn hl
  go_enter Tryz.func104, Tryz.ntmps104
  go_wp2
  go_loopw [4] (fun t wr => ∃ r : Nat, ∃ l' : List UInt8, (r : Int) ≤ 1099511627775 ∧ t = .int .u64 r ∧ WInv b wr l' ∧ Hid (l' ++ enc r = l ++ enc n) ∧ Kept (Wr b) w wr) (fun t _ => (intOf t).toNat)
  case atStart => exact ⟨n, l, hn', by go_num, h, rfl, .refl _ _⟩
  case round =>
    obtain ⟨r, l', hr, rfl, ⟨ao, c, hb, ho⟩, HE, hk⟩ := hrel
    have h0 : wr.cell? ⟨b, 0, none⟩ = some (.slice ao l'.length c) := blk_cell hb 0
    have f0 := blk_free hb 0
    have HLL : Hid (l'.length + 1 ≤ maxLen ∧ (l'.length + 1) * 1 ≤ 140737488355328) := by
      have h1 := congrArg List.length HE.out
      have h2 := HN.out
      have h3 := HL.out
      simp at h1
      constructor
      · unfold maxLen; omega
      · omega
    have HB : Hid (b + 1 ≤ wr.heap.size) := lt_of_block hb
    by_cases h128 : r < 128
    · obtain ⟨d, hE, hd⟩ := enc_small_byte h128
      have HD : Hid (enc r = [d]) := hE
      have DD : Hid ((r : Int) = d.toNat) := by show (r : Int) = _; omega
      clear hE hd
      go_wp2_with (first | (at_builtin; go_must (refine wpList_append_src _ rfl _ _ 127 127 rfl (b + 1) 5 i0 (.int .u8 0) 1 1 Tryz.underlying127 hi hz0 hz1 hz2 rfl _ _ _ rfl (ho.alloc _) (.slice (some ⟨wr.heap.size, 0, none⟩) 1 1) 1 (cellsOf [d]) rfl (src_one d DD.out) HLL.out.1 HLL.out.2 (le_alloc HB.out _) ?_); intro ao' c' w1 ho' hg'; have hb1 := after_grow (blk_past hb _) (ho.alloc _) hg'; have h1 : w1.cell? ⟨b, 0, none⟩ = some (.slice ao l'.length c) := blk_cell hb1 0; have f1 := blk_free hb1 0; have HP : Hid _ := WInv.put (m := 1) (news := [d]) (blk_past hb _) (ho.alloc _) rfl ho' hg'; clear ho' hg' hb1))
      go_end0
      refine ⟨rfl, ?_, hk.trans (((Kept.refl _ _).alloc _).trans HP.out.2)⟩
      rw [← HE.out, HD.out]
      exact HP.out.1
    · obtain ⟨d, hE, hd⟩ := enc_big_byte h128
      have HD : Hid (enc r = d :: enc (r / 128)) := hE
      have hbit := or128 r
      rw [← hd] at hbit
      clear hE hd
      go_wp2_with (first | (at_builtin; go_must (refine wpList_append_src _ rfl _ _ 127 127 rfl (b + 1) 5 i0 (.int .u8 0) 1 1 Tryz.underlying127 hi hz0 hz1 hz2 rfl _ _ _ rfl (ho.alloc _) (.slice (some ⟨wr.heap.size, 0, none⟩) 1 1) 1 (cellsOf [d]) rfl (src_one d rfl) HLL.out.1 HLL.out.2 (le_alloc HB.out _) ?_); intro ao' c' w1 ho' hg'; have hb1 := after_grow (blk_past hb _) (ho.alloc _) hg'; have h1 : w1.cell? ⟨b, 0, none⟩ = some (.slice ao l'.length c) := blk_cell hb1 0; have f1 := blk_free hb1 0; have HP : Hid _ := WInv.put (m := 1) (news := [d]) (blk_past hb _) (ho.alloc _) rfl ho' hg'; clear ho' hg' hb1))
      go_roundw
      case rel => exact ⟨r / 128, l' ++ [d], by omega, by go_num, HP.out.1, by show (l' ++ [d]) ++ enc (r / 128) = _; rw [← HE.out, HD.out]; simp, hk.trans (((Kept.refl _ _).alloc _).trans HP.out.2)⟩
      case measure => simp [intOf]; omega

end Go.Proofs.YtpfgnhockfofhaaGreat

/-
  The sum of bytes, plainly: bit by bit, as the program reckons it and as the document's answer does; the two are one.
-/
namespace Go.Proofs.YtpfgnhockfofhaaGreat

def crcStep (c : Nat) : Nat := if c % 2 = 1 then c / 2 ^^^ 2197175160 else c / 2
def crcSteps : Nat → Nat → Nat
  | 0, c => c
  | k + 1, c => crcSteps k (crcStep c)
def crcByte (c : Nat) (b : UInt8) : Nat := crcSteps 8 (c ^^^ b.toNat)
/-- The register behind these bytes. -/
def crcReg (l : List UInt8) : Nat := l.foldl crcByte 4294967295
def crc (l : List UInt8) : Nat := 4294967295 - crcReg l

theorem crcStep_lt {c : Nat} (h : c < 4294967296) : crcStep c < 4294967296 := by
  unfold crcStep
  split
  · have : c / 2 ^^^ 2197175160 < 2 ^ 32 := Nat.xor_lt_two_pow (by omega) (by omega)
    omega
  · omega
theorem crcSteps_lt : ∀ (k : Nat) {c : Nat}, c < 4294967296 → crcSteps k c < 4294967296
  | 0, _, h => h
  | k + 1, _, h => crcSteps_lt k (crcStep_lt h)
theorem crcSteps_snoc : ∀ (k c : Nat), crcSteps (k + 1) c = crcStep (crcSteps k c)
  | 0, _ => rfl
  | k + 1, c => by
    show crcSteps (k + 1) (crcStep c) = _
    rw [crcSteps_snoc k]; rfl
theorem xor_lt {c b : Nat} (h : c < 4294967296) (hb : b < 4294967296) : c ^^^ b < 4294967296 := by
  have : c ^^^ b < 2 ^ 32 := Nat.xor_lt_two_pow (by omega) (by omega)
  omega
theorem crcByte_lt {c : Nat} {b : UInt8} (h : c < 4294967296) : crcByte c b < 4294967296 :=
  crcSteps_lt 8 (xor_lt h (by have := b.toNat_lt; omega))
theorem fold_lt : ∀ (l : List UInt8) {c : Nat}, c < 4294967296 → l.foldl crcByte c < 4294967296
  | [], _, h => h
  | _ :: l, _, h => fold_lt l (crcByte_lt h)
theorem crcReg_lt (l : List UInt8) : crcReg l < 4294967296 := fold_lt l (by omega)
theorem crc_lt (l : List UInt8) : crc l < 4294967296 := by unfold crc; omega
theorem crcReg_snoc (l : List UInt8) (b : UInt8) : crcReg (l ++ [b]) = crcByte (crcReg l) b := by
  simp [crcReg, List.foldl_append]

/-! The document's answer takes the byte in bit by bit. -/
def refStep (c b k : Nat) : Nat := if (c ^^^ b / 2 ^ k) % 2 = 1 then c / 2 ^^^ 2197175160 else c / 2
def refSteps (b : Nat) : Nat → Nat → Nat
  | 0, c => c
  | k + 1, c => refStep (refSteps b k c) b k
theorem xor_half (a b : Nat) : (a ^^^ b) / 2 = a / 2 ^^^ b / 2 := by
  have := Nat.shiftRight_xor_distrib (a := a) (b := b) (i := 1)
  simpa [Nat.shiftRight_eq_div_pow] using this
theorem steps_same (b c : Nat) : ∀ k, crcSteps k (c ^^^ b) = refSteps b k c ^^^ b / 2 ^ k
  | 0 => by simp [crcSteps, refSteps]
  | k + 1 => by
    rw [crcSteps_snoc, steps_same b c k]
    have hd : b / 2 ^ (k + 1) = b / 2 ^ k / 2 := by rw [Nat.pow_succ, Nat.div_div_eq_div_mul]
    simp only [refSteps, refStep, crcStep, xor_half, hd]
    split
    · rw [Nat.xor_assoc, Nat.xor_comm (b / 2 ^ k / 2), ← Nat.xor_assoc]
    · rfl
theorem byte_same (c : Nat) (b : UInt8) : refSteps b.toNat 8 c = crcByte c b := by
  have h := steps_same b.toNat c 8
  have : b.toNat / 2 ^ 8 = 0 := by have := b.toNat_lt; omega
  rw [this, Nat.xor_zero] at h
  exact h.symm
theorem refSteps_lt (b : Nat) (hb : b < 256) (c : Nat) (h : c < 4294967296) : ∀ k, refSteps b k c < 4294967296
  | 0 => h
  | k + 1 => by
    have ih := refSteps_lt b hb c h k
    show refStep _ b k < _
    unfold refStep
    split
    · exact xor_lt (by omega) (by omega)
    · omega

end Go.Proofs.YtpfgnhockfofhaaGreat

/-
  The program's Sum and the document's: each answers the plain sum of WCrc.
-/
namespace Go.Proofs.YtpfgnhockfofhaaGreat
open Go.RowKit

theorem u32_facts (x : Nat) (hx : x < 4294967296) : bits .and .u32 (x : Int) 1 = ((x % 2 : Nat) : Int) ∧ bits .xor .u32 ((x / 2 : Nat) : Int) 2197175160 = ((x / 2 ^^^ 2197175160 : Nat) : Int) := by
  constructor
  · have := u32_and_nat x 1 hx (by omega)
    rw [nat_mask1] at this
    exact this
  · exact u32_xor_nat (x / 2) 2197175160 (by omega) (by omega)

theorem xor_max (x : Nat) (hx : x < 4294967296) : bits BinOp.xor IntKind.u32 IntKind.u32.max (x : Int) = ((4294967295 - x : Nat) : Int) := by
  have e : IntKind.u32.max = ((4294967295 : Nat) : Int) := by decide
  rw [e, u32_xor_nat _ _ (by omega) hx]
  congr 1
  have h : (4294967295 : Nat) = 2 ^ 32 - 1 := by decide
  rw [h]
  apply Nat.eq_of_testBit_eq
  intro i
  rw [Nat.testBit_xor, Nat.testBit_two_pow_sub_one]
  have := Nat.testBit_two_pow_sub_succ (x := x) (n := 32) (by omega) i
  have e2 : 2 ^ 32 - 1 - x = 2 ^ 32 - (x + 1) := by omega
  rw [e2, this]
  by_cases hi : i < 32
  · simp [hi]
  · have : x.testBit i = false := Nat.testBit_lt_two_pow (Nat.lt_of_lt_of_le (by omega : x < 2 ^ 32) (Nat.pow_le_pow_right (by omega) (by omega)))
    simp [hi, this]

set_option maxHeartbeats 1000000 in
theorem sum_any (l : List UInt8) (w : World) (hl : l.length ≤ maxLen) :
    Calls Tryz.prog 98 #[.string (bs l)] w fun e w' => e = .returned (.int .u32 (crc l)) ∧ w' = w := by
  unfold maxLen at hl
  have hsz := bs_size l
  go_enter Tryz.func98, Tryz.ntmps98
  go_wp2
  go_loop [3, 8] (fun c i => ∃ k : Nat, ∃ x : Nat, k ≤ l.length ∧ i = .int .i64 k ∧ Hid (x = crcReg (l.take k)) ∧ x < 4294967296 ∧ c = .int .u32 x) (fun _ i => l.length - (intOf i).toNat)
  case atStart => exact ⟨0, 4294967295, Nat.zero_le _, rfl, rfl, by omega, rfl⟩
  case round =>
    obtain ⟨k, x, hk, rfl, HX, hr, rfl⟩ := hrel
    by_cases hlt : k < l.length
    · obtain ⟨c, hcl⟩ : ∃ c, l[k] = c := ⟨_, rfl⟩
      have hat : ∀ h, (bs l)[k]'h = c := fun h => (bs_at l k h).trans hcl
      have hc := c.toNat_lt
      have hmod : (c.toNat : Int) % 4294967296 = c.toNat := by omega
      have hx := u32_xor_nat x (c.toNat) hr (by omega)
      have hy := xor_lt hr (b := c.toNat) (by omega)
      obtain ⟨y, hY⟩ : ∃ y, y = x ^^^ c.toNat := ⟨_, rfl⟩
      rw [← hY] at hx hy
      have HY : Hid (crcSteps 8 y = crcReg (l.take (k + 1))) := by
        rw [List.take_succ_eq_append_getElem hlt, crcReg_snoc, ← HX.out, hcl, hY]; rfl
      clear hY hc hcl
      go_wp2
      go_loop [3, 17] (fun c i => ∃ j : Nat, ∃ z : Nat, j ≤ 8 ∧ i = .int .i64 j ∧ Hid (crcSteps (8 - j) z = crcReg (l.take (k + 1))) ∧ z < 4294967296 ∧ c = .int .u32 z) (fun _ i => 8 - (intOf i).toNat)
      case atStart => exact ⟨0, y, Nat.zero_le _, rfl, HY, hy, rfl⟩
      case round =>
        obtain ⟨j, z, hj, rfl, HZ, hz, rfl⟩ := hrel
        by_cases hj8 : j < 8
        · have hf := u32_facts z hz
          obtain ⟨hf1, hf2⟩ := hf
          have HS : Hid (crcSteps (8 - (j + 1)) (crcStep z) = crcReg (l.take (k + 1))) := by
            have := HZ.out
            rw [show 8 - j = (8 - (j + 1)) + 1 by omega] at this
            exact this
          have hst := crcStep_lt hz
          by_cases hodd : z % 2 = 1
          · have HE : Hid (crcStep z = z / 2 ^^^ 2197175160) := by unfold crcStep; exact if_pos hodd
            have hf1' : bits .and .u32 (z : Int) 1 = 1 := by rw [hf1, hodd]; rfl
            clear hf1 hodd
            go_wp2
            go_round
            case rel => exact ⟨j + 1, crcStep z, by omega, by go_num, HS, hst, by rw [HE.out, ← hf2]; rfl⟩
            case measure => simp [intOf]; omega
          · have HE : Hid (crcStep z = z / 2) := by unfold crcStep; exact if_neg hodd
            have hf1' : bits .and .u32 (z : Int) 1 = 0 := by rw [hf1, show z % 2 = 0 by omega]; rfl
            clear hf1 hodd
            go_wp2
            go_round
            case rel => exact ⟨j + 1, crcStep z, by omega, by go_num, HS, hst, by rw [HE.out]; rfl⟩
            case measure => simp [intOf]; omega
        · have HE : Hid (z = crcReg (l.take (k + 1))) := by
            have := HZ.out
            rw [show 8 - j = 0 by omega] at this
            exact this
          go_wp2
          go_round
          case rel => exact ⟨k + 1, z, by omega, by go_num, HE, hz, rfl⟩
          case measure => simp [intOf]; omega
    · have hm := xor_max x hr
      have HE : Hid (x = crcReg l) := by
        have := HX.out
        rw [List.take_of_length_le (by omega)] at this
        exact this
      go_wp2
      go_ret
      exact ⟨ret_int (by rw [HE.out]; rfl), rfl⟩
end Go.Proofs.YtpfgnhockfofhaaGreat

/-
  What the document's reader does, method by method, in the plain readings of WBase; and its Sum.
-/
namespace Go.Proofs.YtpfgnhockfofhaaGreat
open Go.RowKit

/-- The document's reader in memory. -/
def RSt (b : Nat) (w : World) (st : Except Int (List UInt8)) : Prop :=
  match st with
  | .ok l => l.length ≤ maxLen ∧ w.heap[b]? = some (.cells #[.string (bs l), .int .i64 0] 153 (0, 0))
  | .error c => c ≠ 0 ∧ w.heap[b]? = some (.cells #[.string (bs []), .int .i64 c] 153 (0, 0))

theorem bad_any (b : Nat) (l : List UInt8) (c : Int) (w : World) (h : w.heap[b]? = some (.cells #[.string (bs l), .int .i64 0] 153 (0, 0))) (hc : c ≠ 0) :
    Calls Tryz.prog 101 #[.pointer (some ⟨b, 0, none⟩), .int .i64 c] w fun e w' => e = .returned (.tuple #[]) ∧ RSt b w' (.error c) ∧ Kept (One b) w w' := by
  have h0 : w.cell? ⟨b, 0, none⟩ = some (.string (bs l)) := blk_cell h 0
  have h1 : w.cell? ⟨b, 1, none⟩ = some (.int .i64 0) := blk_cell h 1
  have f0 := blk_free h 0
  have f1 := blk_free h 1
  have H : Hid (RSt b ((w.setCell ⟨b, 1, none⟩ (.int .i64 c)).setCell ⟨b, 0, none⟩ (.string (bs []))) (.error c)) := ⟨hc, blk_set (blk_set h 1 _) 0 _⟩
  clear h
  go_enter Tryz.func101, Tryz.ntmps101
  go_wp2
  go_end0
  exact ⟨rfl, H.out, ((Kept.refl _ _).setCell (fun _ => rfl) _).setCell (fun _ => rfl) _⟩

theorem refTake_any (b n : Nat) (st : Except Int (List UInt8)) (w : World) (h : RSt b w st) :
    Calls Tryz.prog 90 #[.pointer (some ⟨b, 0, none⟩), .int .i64 n] w fun e w' => e = .returned (.string (bs (stRun (rdTake n) [] st).1)) ∧ RSt b w' (stRun (rdTake n) [] st).2 ∧ Kept (One b) w w' := by
  cases st with
  | error c =>
    obtain ⟨hc, hb⟩ := h
    have h1 : w.cell? ⟨b, 1, none⟩ = some (.int .i64 c) := blk_cell hb 1
    have hc' : (c != 0) = true := by simpa using hc
    go_enter Tryz.func90, Tryz.ntmps90
    go_wp2
    go_ret
    exact ⟨rfl, ⟨hc, hb⟩, .refl _ _⟩
  | ok l =>
    obtain ⟨hl, hb⟩ := h
    have h0 : w.cell? ⟨b, 0, none⟩ = some (.string (bs l)) := blk_cell hb 0
    have h1 : w.cell? ⟨b, 1, none⟩ = some (.int .i64 0) := blk_cell hb 1
    have f0 := blk_free hb 0
    by_cases hn : n ≤ l.length
    · have hr : rdTake n l = .ok (l.take n, l.drop n) := if_pos hn
      rw [stRun_ok hr]
      simp only
      have hn' : n ≤ (bs l).size := by rw [bs_size]; exact hn
      have H : Hid (RSt b (w.setCell ⟨b, 0, none⟩ (.string ((bs l).extract n (bs l).size))) (.ok (l.drop n))) := ⟨by simp; omega, by rw [bs_drop]; exact blk_set hb 0 _⟩
      rw [← bs_take]
      clear hn hr hb hl
      go_enter Tryz.func90, Tryz.ntmps90
      go_wp2
      go_ret
      exact ⟨rfl, H.out, (Kept.refl _ _).setCell (fun _ => rfl) _⟩
    · have hr : rdTake n l = .error 3 := if_neg hn
      rw [stRun_no hr]
      simp only
      have hn' : ¬ n ≤ (bs l).size := by rw [bs_size]; exact hn
      clear hn hr
      go_enter Tryz.func90, Tryz.ntmps90
      go_wp2_with (go_at_call 101; refine (bad_any b l 3 _ hb (by decide)).mono ?_; rintro e w' ⟨rfl, h2, h3⟩)
      go_ret
      exact ⟨rfl, by assumption, by assumption⟩

theorem i64_xor_nat (a b : Nat) (ha : a < 9223372036854775808) (hb : b < 9223372036854775808) : bits .xor .i64 (a : Int) (b : Int) = ((a ^^^ b : Nat) : Int) := by
  show IntKind.i64.wrap ((BitVec.ofInt 64 (a : Int) ^^^ BitVec.ofInt 64 (b : Int)).toNat : Int) = _
  rw [BitVec.toNat_xor, ofInt_u64 a (by omega), ofInt_u64 b (by omega)]
  have : a ^^^ b < 2 ^ 63 := Nat.xor_lt_two_pow (by omega) (by omega)
  rw [IntKind.wrap_i64]; omega

theorem tmod_nat (n m : Nat) : (n : Int).tmod (m : Int) = ((n % m : Nat) : Int) := by
  rw [Int.tmod_eq_emod_of_nonneg (by omega)]; rfl

set_option maxHeartbeats 1000000 in
theorem refSum_any (l : List UInt8) (w : World) (hl : l.length ≤ maxLen) :
    Calls Tryz.prog 78 #[.string (bs l)] w fun e w' => e = .returned (.int .i64 (crc l)) ∧ w' = w := by
  unfold maxLen at hl
  have hsz := bs_size l
  go_enter Tryz.func78, Tryz.ntmps78
  go_wp2
  go_loop [3, 4] (fun c i => ∃ k : Nat, ∃ x : Nat, k ≤ l.length ∧ i = .int .i64 k ∧ Hid (x = crcReg (l.take k)) ∧ x < 4294967296 ∧ c = .int .i64 x) (fun _ i => l.length - (intOf i).toNat)
  case atStart => exact ⟨0, 4294967295, Nat.zero_le _, rfl, rfl, by omega, rfl⟩
  case round =>
    obtain ⟨k, x, hk, rfl, HX, hr, rfl⟩ := hrel
    by_cases hlt : k < l.length
    · obtain ⟨c, hcl⟩ : ∃ c, l[k] = c := ⟨_, rfl⟩
      have hat : ∀ h, (bs l)[k]'h = c := fun h => (bs_at l k h).trans hcl
      have hc := c.toNat_lt
      have HY : Hid (refSteps c.toNat 8 x = crcReg (l.take (k + 1))) := by
        rw [List.take_succ_eq_append_getElem hlt, crcReg_snoc, ← HX.out, hcl]; exact byte_same _ _
      clear hcl
      go_wp2
      go_loop [3, 5] (fun c' i => ∃ j : Nat, ∃ z : Nat, j ≤ 8 ∧ i = .int .i64 j ∧ Hid (z = refSteps c.toNat j x) ∧ z < 4294967296 ∧ c' = .int .i64 z) (fun _ i => 8 - (intOf i).toNat)
      case atStart => exact ⟨0, x, Nat.zero_le _, rfl, rfl, hr, rfl⟩
      case round =>
        obtain ⟨j, z, hj, rfl, HZ, hz, rfl⟩ := hrel
        by_cases hj8 : j < 8
        · have hq : c.toNat / 2 ^ j < 256 := Nat.lt_of_le_of_lt (Nat.div_le_self _ _) hc
          have e1 : ((c.toNat : Int) / 2 ^ j) = ((c.toNat / 2 ^ j : Nat) : Int) := by push_cast; rfl
          have hf : bits .xor .i64 (z : Int) ((c.toNat : Int) / 2 ^ j) = ((z ^^^ c.toNat / 2 ^ j : Nat) : Int) := by rw [e1]; exact i64_xor_nat _ _ (by omega) (by omega)
          have e2 : ((z : Int) / 2) = ((z / 2 : Nat) : Int) := by omega
          have hg : bits .xor .i64 ((z : Int) / 2) 2197175160 = ((z / 2 ^^^ 2197175160 : Nat) : Int) := by rw [e2]; exact i64_xor_nat _ 2197175160 (by omega) (by omega)
          have hlt2 := refSteps_lt c.toNat hc x hr (j + 1)
          have HS : Hid (refSteps c.toNat (j + 1) x = refStep z c.toNat j) := by rw [HZ.out]; rfl
          rw [HS.out] at hlt2
          clear e1 e2 hq
          by_cases hodd : (z ^^^ c.toNat / 2 ^ j) % 2 = 1
          · have HE : Hid (refStep z c.toNat j = z / 2 ^^^ 2197175160) := by unfold refStep; exact if_pos hodd
            have ht : ((bits .xor .i64 (z : Int) ((c.toNat : Int) / 2 ^ j)).tmod 2 == 1) = true := by rw [hf, show (2 : Int) = ((2 : Nat) : Int) from rfl, tmod_nat, hodd]; rfl
            clear hf hodd
            go_wp2
            go_round
            case rel => exact ⟨j + 1, refStep z c.toNat j, by omega, by go_num, HS.out.symm, hlt2, by rw [HE.out, ← hg]⟩
            case measure => simp [intOf]; omega
          · have HE : Hid (refStep z c.toNat j = z / 2) := by unfold refStep; exact if_neg hodd
            have ht : ((bits .xor .i64 (z : Int) ((c.toNat : Int) / 2 ^ j)).tmod 2 == 1) = false := by rw [hf, show (2 : Int) = ((2 : Nat) : Int) from rfl, tmod_nat, show (z ^^^ c.toNat / 2 ^ j) % 2 = 0 by omega]; rfl
            clear hf hodd
            go_wp2
            go_round
            case rel => exact ⟨j + 1, refStep z c.toNat j, by omega, by go_num, HS.out.symm, hlt2, by rw [HE.out]; rfl⟩
            case measure => simp [intOf]; omega
        · have HE : Hid (z = crcReg (l.take (k + 1))) := by
            obtain rfl : j = 8 := by omega
            exact HZ.out.trans HY.out
          go_wp2
          go_round
          case rel => exact ⟨k + 1, z, by omega, by go_num, HE, hz, rfl⟩
          case measure => simp [intOf]; omega
    · have HE : Hid (x = crcReg l) := by
        have := HX.out
        rw [List.take_of_length_le (by omega)] at this
        exact this
      go_wp2
      go_ret
      exact ⟨ret_int (by rw [HE.out]; have := crcReg_lt l; unfold crc; omega), rfl⟩

theorem refTake_one (b : Nat) (c : UInt8) (t : List UInt8) (w : World) (h : RSt b w (.ok (c :: t))) :
    Calls Tryz.prog 90 #[.pointer (some ⟨b, 0, none⟩), .int .i64 1] w fun e w' => e = .returned (.string (bs [c])) ∧ w'.cell? ⟨b, 1, none⟩ = some (.int .i64 0) ∧ RSt b w' (.ok t) ∧ Kept (One b) w w' := by
  refine (refTake_any b 1 _ w h).mono ?_
  rintro e w' ⟨rfl, h2, h3⟩
  have hr : rdTake 1 (c :: t) = .ok ([c], t) := by unfold rdTake; rw [if_pos (by simp)]; rfl
  rw [stRun_ok hr] at h2 ⊢
  exact ⟨rfl, blk_cell h2.2 1, h2, h3⟩

set_option maxRecDepth 100000 in
set_option maxHeartbeats 2000000 in
theorem refNumber_any (b : Nat) (st : Except Int (List UInt8)) (w : World) (h : RSt b w st) :
    Calls Tryz.prog 105 #[.pointer (some ⟨b, 0, none⟩)] w fun e w' => e = .returned (.int .i64 (stRun rdNum 0 st).1) ∧ RSt b w' (stRun rdNum 0 st).2 ∧ Kept (One b) w w' := by
  cases st with
  | error c =>
    rw [stRun_err]
    simp only
    obtain ⟨hc, hb⟩ := id h
    have hc' : (c != 0) = true := by simpa using hc
    go_enter Tryz.func105, Tryz.ntmps105
    go_wp2
    refine wp_loop_rounds 1 ?_
    rw [rounds_succ]
    go_wp2_with (go_at_call 90; refine (refTake_any b 1 (.error c) _ h).mono ?_; rintro e w' ⟨rfl, hs, h3⟩; have h4 := blk_cell hs.2 1)
    go_ret
    exact ⟨rfl, by assumption, by assumption⟩
  | ok l =>
    go_enter Tryz.func105, Tryz.ntmps105
    go_wp2
    go_loopw [3, 4] (fun n s wr => ∃ k : Nat, ∃ x : Nat, ∃ t : List UInt8, k ≤ 6 ∧ Hid (rdNum l = numGo k x t) ∧ x < 2 ^ (7 * k) ∧ n = .int .i64 x ∧ s = .int .i64 k ∧ RSt b wr (.ok t) ∧ Kept (One b) w wr) (fun _ s _ => 50 - (intOf s).toNat)
    case atStart => exact ⟨0, 0, l, by omega, rfl, by omega, rfl, rfl, h, .refl _ _⟩
    case round =>
      obtain ⟨k, x, t, hk, ht, hx, rfl, rfl, hs, hw⟩ := hrel
      clear h
      cases t with
      | nil =>
        have HR : Hid (stRun rdNum 0 (.ok l) = (0, .error 3)) := stRun_no (ht.out.trans (numGo_nil _ _))
        go_wp2_with (go_at_call 90; refine (refTake_any b 1 (.ok []) _ hs).mono ?_; rintro e w' ⟨rfl, hs', h3⟩; have h4 : w'.cell? ⟨b, 1, none⟩ = some (.int .i64 3) := blk_cell hs'.2 1)
        go_ret
        rw [HR.out]
        exact ⟨rfl, by assumption, hw.trans (by assumption)⟩
      | cons c t =>
        have h1 : (bs [c]).size = 1 := by rw [bs_size]; rfl
        have h2 : ∀ h, ((bs [c])[0]'h) = c := fun h => by rw [bs_at]; rfl
        have hc := c.toNat_lt
        have hp := pow7 k hk
        have hlt := step_lt hx (show c.toNat % 128 < 128 by omega)
        have hm0 : c.toNat % 128 * 2 ^ (7 * k) ≤ 127 * 4398046511104 := Nat.mul_le_mul (by omega) hp
        obtain ⟨y, hy⟩ : ∃ y, y = c.toNat % 128 * 2 ^ (7 * k) := ⟨_, rfl⟩
        have hy2 : wrap64 ((c.toNat : Int) % 128 * 2 ^ (7 * k)) = (y : Int) := by
          have : ((c.toNat : Int) % 128 * 2 ^ (7 * k)) = (y : Int) := by rw [hy]; push_cast; rfl
          rw [this, wrap64]; omega
        rw [← hy] at hm0 hlt
        have HY : Hid (y = c.toNat % 128 * 2 ^ (7 * k)) := hy
        by_cases hb : k ≤ 5 ∧ x + c.toNat % 128 * 2 ^ (7 * k) ≤ maxNum ∧ (c.toNat ≠ 0 ∨ k = 0)
        · have hm : (x : Int) + y ≤ 1099511627775 := by rw [← hy] at hb; unfold maxNum at hb; omega
          by_cases h128 : c.toNat < 128
          · have HR : Hid (stRun rdNum 0 (.ok l) = (x + y, .ok t)) := by rw [hy]; exact stRun_ok (ht.out.trans (numGo_end hb h128))
            obtain ⟨hb1, hb2, hb3⟩ := hb
            clear hb2 hy
            by_cases hcz : c.toNat = 0
            · have hkz : ¬ 0 < k := by omega
              clear hb3 hcz
              go_wp2_with (first | (go_at_call 90; refine (refTake_one b c t _ hs).mono ?_; rintro e w' ⟨rfl, h4, hs', h3⟩))
              all_goals
                go_ret
                rw [HR.out]
                exact ⟨ret_int (by show _ = ((x + y : Nat) : Int); omega), by assumption, hw.trans (by assumption)⟩
            · have hcz2 : ((c.toNat : Int) == 0) = false := by simpa using hcz
              clear hb3
              go_wp2_with (first | (go_at_call 90; refine (refTake_one b c t _ hs).mono ?_; rintro e w' ⟨rfl, h4, hs', h3⟩))
              all_goals
                go_ret
                rw [HR.out]
                exact ⟨ret_int (by show _ = ((x + y : Nat) : Int); omega), by assumption, hw.trans (by assumption)⟩
          · have HR : Hid (rdNum l = numGo (k + 1) (x + y) t) := by rw [hy]; exact ht.out.trans (numGo_more hb h128)
            obtain ⟨hb1, hb2, hb3⟩ := hb
            have hcz : ¬ c.toNat = 0 := by omega
            have hcz2 : ((c.toNat : Int) == 0) = false := by simpa using hcz
            clear hb2 hy hb3
            go_wp2_with (first | (go_at_call 90; refine (refTake_one b c t _ hs).mono ?_; rintro e w' ⟨rfl, h4, hs', h3⟩))
            all_goals
              go_roundw
              case rel => exact ⟨k + 1, x + y, t, by omega, HR, hlt, by go_num, by go_num, by assumption, hw.trans (by assumption)⟩
              case measure => simp [intOf]; omega
        · have HR : Hid (stRun rdNum 0 (.ok l) = (0, .error 1)) := stRun_no (ht.out.trans (numGo_bad hb))
          by_cases hk5 : k ≤ 5
          · by_cases hm : (x : Int) + y ≤ 1099511627775
            · have hcz : c.toNat = 0 := by rw [← hy] at hb; unfold maxNum at hb; omega
              have hkz : 0 < k := by rw [← hy] at hb; unfold maxNum at hb; omega
              have hcz2 : ((c.toNat : Int) == 0) = true := by simp [hcz]
              clear hcz hb hy
              go_wp2_with (first | (go_at_call 90; refine (refTake_one b c t _ hs).mono ?_; rintro e w' ⟨rfl, h4, hs', h3⟩) | (go_at_call 101; refine (bad_any b t 1 _ (by assumption : RSt b _ (.ok t)).2 (by decide)).mono ?_; rintro e w2 ⟨rfl, hs2, h5⟩))
              all_goals
                go_ret
                rw [HR.out]
                exact ⟨rfl, hs2, hw.trans (h3.trans h5)⟩
            · clear hb hy
              go_wp2_with (first | (go_at_call 90; refine (refTake_one b c t _ hs).mono ?_; rintro e w' ⟨rfl, h4, hs', h3⟩) | (go_at_call 101; refine (bad_any b t 1 _ (by assumption : RSt b _ (.ok t)).2 (by decide)).mono ?_; rintro e w2 ⟨rfl, hs2, h5⟩))
              all_goals
                go_ret
                rw [HR.out]
                exact ⟨rfl, hs2, hw.trans (h3.trans h5)⟩
          · clear hb hy
            go_wp2_with (first | (go_at_call 90; refine (refTake_one b c t _ hs).mono ?_; rintro e w' ⟨rfl, h4, hs', h3⟩) | (go_at_call 101; refine (bad_any b t 1 _ (by assumption : RSt b _ (.ok t)).2 (by decide)).mono ?_; rintro e w2 ⟨rfl, hs2, h5⟩))
            all_goals
              go_ret
              rw [HR.out]
              exact ⟨rfl, hs2, hw.trans (h3.trans h5)⟩

set_option maxHeartbeats 1000000 in
theorem refUpTo_any (b most : Nat) (st : Except Int (List UInt8)) (w : World) (h : RSt b w st) :
    Calls Tryz.prog 100 #[.pointer (some ⟨b, 0, none⟩), .int .i64 most] w fun e w' => e = .returned (.int .i64 (stRun (rdUpTo most) 0 st).1) ∧ RSt b w' (stRun (rdUpTo most) 0 st).2 ∧ Kept (One b) w w' := by
  by_cases hg : ∃ l n t, st = .ok l ∧ rdNum l = .ok (n, t) ∧ ¬ n ≤ most
  · obtain ⟨l, n, t, rfl, hr, hn⟩ := hg
    have HR : Hid (stRun (rdUpTo most) 0 (.ok l) = (0, .error 4)) := stRun_no (by unfold rdUpTo; rw [hr]; exact if_neg hn)
    have hn' : (stRun rdNum 0 (.ok l)).1 = n := by rw [stRun_ok hr]
    have hst : (stRun rdNum 0 (.ok l)).2 = .ok t := by rw [stRun_ok hr]
    have H := refNumber_any b _ w h
    rw [hn', hst] at H
    clear hn' hst hr h
    go_enter Tryz.func100, Tryz.ntmps100
    go_wp2_with (first | (go_at_call 105; refine H.mono ?_; rintro e w' ⟨rfl, hs, hk⟩) | (go_at_call 101; refine (bad_any b t 4 _ hs.2 (by decide)).mono ?_; rintro e w2 ⟨rfl, hs2, hk2⟩))
    go_ret
    rw [HR.out]
    exact ⟨rfl, hs2, hk.trans hk2⟩
  · have H := refNumber_any b _ w h
    have HR : Hid (stRun (rdUpTo most) 0 st = stRun rdNum 0 st ∧ (stRun rdNum 0 st).1 ≤ most) := by
      cases st with
      | error c => exact ⟨rfl, Nat.zero_le _⟩
      | ok l =>
        cases hr : rdNum l with
        | error c => rw [stRun_no hr, stRun_no (c := c) (by unfold rdUpTo; rw [hr])]; exact ⟨rfl, Nat.zero_le _⟩
        | ok r =>
          obtain ⟨n, t⟩ := r
          have hn : n ≤ most := Decidable.byContradiction fun hn => hg ⟨l, n, t, rfl, hr, hn⟩
          rw [stRun_ok hr, stRun_ok (a := n) (t := t) (by unfold rdUpTo; rw [hr]; exact if_pos hn)]
          exact ⟨rfl, hn⟩
    rw [HR.out.1]
    have hn := HR.out.2
    obtain ⟨n, hN⟩ : ∃ n, n = (stRun rdNum 0 st).1 := ⟨_, rfl⟩
    obtain ⟨s2, hS⟩ : ∃ s2, s2 = (stRun rdNum 0 st).2 := ⟨_, rfl⟩
    rw [← hN] at hn
    rw [← hN, ← hS] at H ⊢
    clear hN hS HR hg h
    go_enter Tryz.func100, Tryz.ntmps100
    go_wp2_with (first | (go_at_call 105; refine H.mono ?_; rintro e w' ⟨rfl, hs, hk⟩))
    go_ret
    exact ⟨rfl, hs, hk⟩

theorem stText (most : Nat) (st : Except Int (List UInt8)) : stRun (rdText most) [] st = stRun (rdTake (stRun (rdUpTo most) 0 st).1) [] (stRun (rdUpTo most) 0 st).2 := by
  cases st with
  | error c => rfl
  | ok l =>
    cases hr : rdUpTo most l with
    | error c => rw [stRun_no hr, stRun_no (c := c) (by unfold rdText; rw [hr]), stRun_err]
    | ok r =>
      obtain ⟨n, t⟩ := r
      rw [stRun_ok hr]
      have e : rdText most l = rdTake n t := by unfold rdText; rw [hr]
      cases h2 : rdTake n t with
      | error c => rw [stRun_no (h2 ▸ e), stRun_no h2]
      | ok r2 => obtain ⟨a, u⟩ := r2; rw [stRun_ok (h2 ▸ e), stRun_ok h2]

theorem refText_any (b most : Nat) (st : Except Int (List UInt8)) (w : World) (h : RSt b w st) :
    Calls Tryz.prog 89 #[.pointer (some ⟨b, 0, none⟩), .int .i64 most] w fun e w' => e = .returned (.string (bs (stRun (rdText most) [] st).1)) ∧ RSt b w' (stRun (rdText most) [] st).2 ∧ Kept (One b) w w' := by
  rw [stText]
  have H := refUpTo_any b most st w h
  obtain ⟨n, hN⟩ : ∃ n, n = (stRun (rdUpTo most) 0 st).1 := ⟨_, rfl⟩
  obtain ⟨s2, hS⟩ : ∃ s2, s2 = (stRun (rdUpTo most) 0 st).2 := ⟨_, rfl⟩
  rw [← hN, ← hS] at H ⊢
  clear hN hS h
  go_enter Tryz.func89, Tryz.ntmps89
  go_wp2_with (first | (go_at_call 100; refine H.mono ?_; rintro e w' ⟨rfl, hs, hk⟩) | (go_at_call 90; refine (refTake_any b n s2 _ hs).mono ?_; rintro e w2 ⟨rfl, hs2, hk2⟩))
  go_ret
  exact ⟨rfl, hs2, hk.trans hk2⟩

end Go.Proofs.YtpfgnhockfofhaaGreat
