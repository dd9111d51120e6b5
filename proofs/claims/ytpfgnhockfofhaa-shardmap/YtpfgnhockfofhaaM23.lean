/-
  Joined: WSh8.
-/
import Derived.Test.YtpfgnhockfofhaaM14
import Derived.Test.YtpfgnhockfofhaaM22
import Derived.Laws.Externs
/-
  Shards: strings.Builder by hand; pack.
-/
namespace Go.Proofs.Ytpfgnhockfofhaa
open Go.RowKit

theorem Try.sizeBld : (Try.prog.info? 142).map (·.size) = some 2 := by kernel_rfl
theorem Try.liesBld : liesAt Try.prog Try.prog.depth 142 (2 / Try.prog.cellsOf 142) 0 142 1 = true := by kernel_rfl
theorem Try.infoByte8 : (Try.prog.info? 5).map (fun i => (i.zero, i.size, i.bytes)) = some (some (.int .u8 0), 1, 1) := by kernel_rfl
/-- A builder that holds these bytes. -/
def Bld (B b : Nat) (l : List UInt8) (w : World) : Prop := Lib.IsBuilder 142 5 B b (Lib.byteCells l) w
/-- What a call on a builder touches. -/
def TBu (B : Nat) : Nat → Obj → Prop := fun q o => B ≤ q ∧ ((∃ cs, o = .cells cs 142 (0, 0)) ∨ ∃ cs, o = .cells cs 5 (0, 0))
set_option maxRecDepth 100000 in
set_option maxHeartbeats 1000000 in
theorem copyUsed (b : Nat) (w : World) (h0 : w.cell? ⟨b, 0, none⟩ = some (.pointer (some ⟨b, 0, none⟩))) :
    Calls Try.prog 83 #[.pointer (some ⟨b, 0, none⟩)] w fun e w' => e = .returned (.tuple #[]) ∧ w' = w := by
  obtain ⟨j, hj, _⟩ := Option.map_eq_some_iff.1 Try.sizeBld
  go_enter Try.func83, Try.ntmps83
  go_wp2
  rw [Lib.run_neq_ptr_same w _ Try.underlying139 hj]
  go_wp2
  go_end0
  exact ⟨rfl, rfl⟩
set_option maxRecDepth 100000 in
set_option maxHeartbeats 1000000 in
theorem copyFresh (b : Nat) (w : World) (h0 : w.cell? ⟨b, 0, none⟩ = some (.pointer none)) (hsh : w.shape? b = some (142, 2)) (hfz : w.frozen? ⟨b, 0, none⟩ = false) :
    Calls Try.prog 83 #[.pointer (some ⟨b, 0, none⟩)] w fun e w' => e = .returned (.tuple #[]) ∧ w' = w.setCell ⟨b, 0, none⟩ (.pointer (some ⟨b, 0, none⟩)) := by
  obtain ⟨j, hj, hjs⟩ := Option.map_eq_some_iff.1 Try.sizeBld
  go_enter Try.func83, Try.ntmps83
  go_wp2
  rw [Lib.run_to_unsafe w ⟨b, 0, none⟩ Try.underlying139 Try.underlying169 hj (by rw [hjs]; decide) hsh (Nat.zero_lt_succ 1)]
  simp only [Result.andThen]
  rw [Oper.upon_value]
  go_wp2
  rw [run_callFunc_extern Try.func90 (by kernel_rfl) (by kernel_rfl) (by kernel_rfl) (e := Extern.AbiNoEscape.same) (by kernel_rfl)]
  rw [Lib.run_noEscape]
  simp only [Result.andThen]
  rw [Oper.upon_value]
  go_wp2
  rw [Lib.run_from_unsafe w ⟨b, 0, none⟩ Try.underlying169 Try.underlying139 hj hsh Try.liesBld]
  simp only [Result.andThen]
  rw [Oper.upon_value]
  go_wp2
  go_end0
  exact ⟨rfl, rfl⟩
theorem copyCheck_any (B b : Nat) (l : List UInt8) (w : World) (h : Bld B b l w) :
    Calls Try.prog 83 #[.pointer (some ⟨b, 0, none⟩)] w fun e w' => e = .returned (.tuple #[]) ∧ Lib.BuilderAt 142 5 B b (.pointer (some ⟨b, 0, none⟩)) (Lib.byteCells l) w' ∧ Kept (TBu B) w w' := by
  rcases h with h | h
  · refine (copyFresh b w h.cell0 h.shape h.frozen0).mono ?_
    rintro e w' ⟨rfl, rfl⟩
    refine ⟨rfl, h.used _, (Kept.refl _ _).setT (fun o ho => ?_) _ _⟩
    obtain ⟨h1, v, h2, _⟩ := h
    rw [h2] at ho
    cases ho
    exact ⟨h1, .inl ⟨_, rfl⟩⟩
  · refine (copyUsed b w h.cell0).mono ?_
    rintro e w' ⟨rfl, rfl⟩
    exact ⟨rfl, h, Kept.refl _ _⟩
theorem strCells_bs (s : List UInt8) : Lib.strCells (bs s) = Lib.byteCells s := by
  unfold Lib.strCells Lib.byteCells
  rw [bs_data]
theorem byteCells_app (a b : List UInt8) : Lib.byteCells (a ++ b) = Lib.byteCells a ++ Lib.byteCells b := by simp [Lib.byteCells]
theorem byteCells_len8 (a : List UInt8) : (Lib.byteCells a).length = a.length := by simp [Lib.byteCells]
set_option maxRecDepth 100000 in
set_option maxHeartbeats 2000000 in
theorem writeString_any (B b : Nat) (l s : List UInt8) (w : World) (h : Bld B b l w) (hlen : l.length + s.length ≤ 100000000000) (hBw : B ≤ w.heap.size) :
    Calls Try.prog 69 #[.pointer (some ⟨b, 0, none⟩), .string (bs s)] w fun e w' => e = .returned (.tuple #[.int .i64 s.length, .nilIface]) ∧ Bld B b (l ++ s) w' ∧ Kept (TBu B) w w' := by
  obtain ⟨i0, hi, hz0, hz1, hz2⟩ := info_parts Try.infoByte8
  have CC := copyCheck_any B b l w h
  have hss := bs_size s
  have HSC : Hid (Lib.strCells (bs s) = Lib.byteCells s) := strCells_bs s
  have hl1 : (Lib.byteCells l).length = l.length := byteCells_len8 l
  clear h
  go_enter Try.func69, Try.ntmps69
  go_wp2_with fail
  go_fit CC
  rintro e w1 ⟨rfl, h1, hb1⟩
  clear CC
  obtain ⟨hB, v, hbk, hown, hne⟩ := h1
  have c0 : w1.cell? ⟨b, 0, none⟩ = some (.pointer (some ⟨b, 0, none⟩)) := by rw [Lib.cell_of_heap hbk]; rfl
  have c1 : w1.cell? ⟨b, 1, none⟩ = some v := by rw [Lib.cell_of_heap hbk]; rfl
  go_wp2_with (at_builtin; refine Lib.wpList_append_own_string _ rfl _ _ 140 9 rfl B 5 i0 Try.underlying140 Try.underlying9 hi hz0 hz1 hz2 _ _ _ rfl hown (bs s) rfl ?c3 ?c4 ?c5 ?_)
  case c3 => unfold maxLen; omega
  case c4 => omega
  case c5 => have := hb1.size; omega
  intro v' w2 hown' hgrow _
  have hlt : b < w1.heap.size := lt_of_block hbk
  have hb2 : w2.heap[b]? = some (.cells #[.pointer (some ⟨b, 0, none⟩), v] 142 (0, 0)) := by
    rw [hgrow.block b hlt (fun e => hne e.symm)]
    exact hbk
  have d0 : w2.cell? ⟨b, 0, none⟩ = some (.pointer (some ⟨b, 0, none⟩)) := by rw [Lib.cell_of_heap hb2]; rfl
  have d1 : w2.cell? ⟨b, 1, none⟩ = some v := by rw [Lib.cell_of_heap hb2]; rfl
  have f1 : w2.frozen? ⟨b, 1, none⟩ = false := Lib.frozen_of_heap hb2 1
  obtain ⟨ao, n', cap, rfl⟩ : ∃ ao n' cap, v' = .slice ao n' cap := by
    rcases hown'.2 with ⟨hv, _⟩ | ⟨g, cap, cur, hv, _⟩
    · exact ⟨_, _, _, hv⟩
    · exact ⟨_, _, _, hv⟩
  go_wp2
  go_ret2
  refine ⟨rfl, .inr ?_, ?_⟩
  · rw [byteCells_app, ← HSC.out]
    exact Lib.BuilderAt.put (T := 142) (e := 5) hB hb2 (bs' := Lib.byteCells l ++ Lib.strCells (bs s)) (by rw [List.length_append, Lib.strCells_length, hl1, hss]; exact hown') (by decide)
  · refine hb1.trans (((Kept.refl (TBu B) w1).grownT hgrow (fun k hk o ho => ?_)).setT (fun o ho => ?_) _ _)
    · rcases hown.2 with ⟨e1, _⟩ | ⟨g, _, cur, e1, hBg, hb2, _⟩
      · rw [e1] at hk; simp [Value.ownBlock] at hk
      · rw [e1] at hk
        have e2 : g = k := by simpa [Value.ownBlock] using hk
        subst e2
        rw [hb2] at ho
        cases ho
        exact ⟨hBg, .inr ⟨_, rfl⟩⟩
    · rw [hbk] at ho
      cases ho
      exact ⟨hB, .inl ⟨_, rfl⟩⟩
theorem Bld.kept {B b : Nat} {l : List UInt8} {w w' : World} (h : Bld B b l w) (k : Kept Nil w w') : Bld B b l w' := by
  have one : ∀ p, Lib.BuilderAt 142 5 B b p (Lib.byteCells l) w → Lib.BuilderAt 142 5 B b p (Lib.byteCells l) w' := fun p h => by
    obtain ⟨h1, v, h2, h3, h4⟩ := h
    exact ⟨h1, v, k.block _ _ h2 (fun x => x), own_kept h3 k (fun _ _ _ x => x), h4⟩
  exact h.imp (one _) (one _)
set_option maxRecDepth 100000 in
set_option maxHeartbeats 2000000 in
/-- One text as a frame. -/
theorem packF_any (B b : Nat) (l s : List UInt8) (w : World) (h : Bld B b l w) (hs : s.length ≤ 65536) (hlen : l.length ≤ 90000000000) (hBw : B ≤ w.heap.size) :
    Calls Try.prog 67 #[.string (bs s), .pointer (some ⟨b, 0, none⟩)] w fun e w' => e = .returned (.tuple #[]) ∧ Bld B b (l ++ encFrame s) w' ∧ Kept (TBu B) w w' := by
  have FR := frame_any s w (by unfold maxLen; omega)
  unfold putFrame at FR
  rw [if_pos hs] at FR
  have hfm := encFrame_max hs
  go_enter Try.func67, Try.ntmps67
  go_wp2_with fail
  go_fit FR
  rintro e w1 ⟨rfl, k1⟩
  have WS := writeString_any B b l (encFrame s) w1 (h.kept k1) (by omega) (Nat.le_trans hBw k1.size)
  go_wp2_with fail
  go_fit WS
  rintro e w2 ⟨rfl, h2, b2⟩
  go_wp2
  go_end0
  exact ⟨rfl, h2, (k1.mono (fun _ _ x => x.elim)).trans b2⟩
theorem Kept.newT {B : Nat} {w a b : World} (h : Kept Nil w a) (k : Kept (TBu B) a b) (hn : w.heap.size ≤ B) : Kept Nil w b := h.newG (k.mono (fun _ _ x => x.1) : Kept (Ge B) a b) hn
/-- A row of items, wherever it lies. -/
def ItRow (w : World) (ao : Option Addr) (l : List Pr) : Prop := ∀ j, (hj : j < l.length) → ∃ a, ao = some a ∧ w.cell? (a.add (j * 2)) = some (.string (bs l[j].k)) ∧ w.cell? ⟨(a.add (j * 2)).block, (a.add (j * 2)).off + 1, none⟩ = some (.string (bs l[j].v))
theorem ItRow.kept {w w' : World} {ao : Option Addr} {l : List Pr} (h : ItRow w ao l) (hk : Kept Nil w w') : ItRow w' ao l := fun j hj => by
  obtain ⟨a, e, c1, c2⟩ := h j hj
  exact ⟨a, e, cell_kept hk (fun _ x => x) c1, cell_kept hk (fun _ x => x) c2⟩
theorem frP_app (a b : List Pr) : frP (a ++ b) = frP a ++ frP b := by
  induction a with
  | nil => rfl
  | cons x t ih => show x.k :: x.v :: frP (t ++ b) = _; rw [ih]; rfl
theorem frames_app (a b : List (List UInt8)) : frames (a ++ b) = frames a ++ frames b := by simp [frames]
theorem pack_next {fr up : List UInt8} {l : List Pr} {k : Nat} (hk : k < l.length) : packB fr up (l.take (k + 1)) = packB fr up (l.take k) ++ encFrame l[k].k ++ encFrame l[k].v := by
  unfold packB frB
  rw [List.take_succ_eq_append_getElem hk, frP_app, show fr :: up :: (frP (l.take k) ++ frP [l[k]]) = (fr :: up :: frP (l.take k)) ++ [l[k].k, l[k].v] by simp [frP], frames_app, show frames [l[k].k, l[k].v] = encFrame l[k].k ++ encFrame l[k].v by simp [frames], List.append_assoc]
theorem pack_nil (fr up : List UInt8) : packB fr up [] = [] ++ encFrame fr ++ encFrame up := by simp [packB, frB, frP, frames]
theorem pack_size {K : List (List UInt8)} {fr up : List UInt8} {l : List Pr} (hf : fr.length ≤ 16) (hu : up.length ≤ 16) (h : ∀ x ∈ l, itOk K x) (k : Nat) : (packB fr up (l.take k)).length ≤ 77 * (2 + 2 * l.length) := by
  have h1 := frames_le (frB_small hf hu (fun x hx => h x (List.mem_of_mem_take hx) : ∀ x ∈ l.take k, itOk K x))
  have h2 : (frB fr up (l.take k)).length = 2 + 2 * (l.take k).length := by unfold frB; rw [List.length_cons, List.length_cons, frP_len]; omega
  have h3 := List.length_take_le k l
  unfold packB
  rw [List.length_take] at h2
  omega
set_option maxRecDepth 100000 in
set_option maxHeartbeats 4000000 in
/-- A range and its items as a body. -/
theorem pack_any (K : List (List UInt8)) (fr up : List UInt8) (c : Nat) (ao : Option Addr) (l : List Pr) (w : World) (h : ItRow w ao l) (hf : fr.length ≤ 16) (hu : up.length ≤ 16) (hi : ∀ x ∈ l, itOk K x) (hl : l.length ≤ 4000000) :
    Calls Try.prog 53 #[.string (bs fr), .string (bs up), .slice ao l.length c] w fun e w' => e = .returned (.string (bs (packB fr up l))) ∧ Kept Nil w w' := by
  have HR : Hid (ItRow w ao l) := h
  have HI : Hid (∀ x ∈ l, itOk K x) := hi
  obtain ⟨B, HB⟩ : ∃ B, Hid (B = w.heap.size) := ⟨_, rfl⟩
  obtain ⟨W, hW⟩ : ∃ W, W = w.alloc (.cells #[.pointer none, .slice none 0 0] 142) := ⟨_, rfl⟩
  have KW : Hid (Kept Nil w W) := by rw [hW]; exact (Kept.refl _ _).alloc _
  have HBW : Hid (Bld B B [] W) := by rw [hW, HB.out]; exact Lib.fresh_isBuilder _ _ _
  have HBs : Hid (B ≤ W.heap.size) := by rw [HB.out]; exact KW.out.size
  have F1 := packF_any B B [] fr W HBW.out (by omega) (by simp) HBs.out
  have hps := fun k => pack_size (K := K) hf hu hi k
  have HPS : Hid (∀ k, (packB fr up (l.take k)).length ≤ 77 * (2 + 2 * l.length)) := hps
  have hfm := encFrame_max (s := fr) (by omega)
  clear hps h hi
  go_enter Try.func53, Try.ntmps53
  go_upto_region 3 with fail
  rw [← hW, ← HB.out]
  clear hW
  go_wp2_with fail
  go_fit F1
  rintro e w1 ⟨rfl, h1, k1⟩
  have HK1 : Hid (Kept Nil w w1) := KW.out.newT k1 (by rw [HB.out]; exact Nat.le_refl _)
  have F2 := packF_any B B _ up w1 h1 (by omega) (by simp only [List.nil_append]; omega) (Nat.le_trans HBs.out k1.size)
  clear F1 k1 h1
  go_wp2_with fail
  go_fit F2
  rintro e w2 ⟨rfl, h2, k2⟩
  have HK2 : Hid (Kept Nil w w2) := HK1.out.newT k2 (by rw [HB.out]; exact Nat.le_refl _)
  have HB2 : Hid (Bld B B (packB fr up (l.take 0)) w2) := by rw [List.take_zero, pack_nil]; exact h2
  clear F2 k2 h2
  go_wp2
  go_loopw [20] (fun u wr => ∃ k : Nat, k ≤ l.length ∧ u = .int .i64 k ∧ Hid (Bld B B (packB fr up (l.take k)) wr) ∧ Hid (Kept Nil w wr)) (fun u _ => l.length - (intOf u).toNat)
  case atStart => exact ⟨0, Nat.zero_le _, rfl, HB2.out, HK2.out⟩
  case round =>
    obtain ⟨k, hk, rfl, HBk, HK⟩ := hrel
    by_cases hlt : k < l.length
    · have hli : (k : Int) < (l.length : Int) := by omega
      obtain ⟨a, e, c0, c1⟩ := (HR.out.kept HK.out) k hlt
      subst e
      obtain ⟨y, HY⟩ : ∃ y : Pr, Hid (y = l[k]) := ⟨l[k], (rfl : l[k] = l[k])⟩
      rw [← HY.out] at c0 c1
      have HYO : Hid (itOk K y) := by rw [HY.out]; exact HI.out _ (List.getElem_mem _)
      have HN : Hid (packB fr up (l.take (k + 1)) = packB fr up (l.take k) ++ encFrame y.k ++ encFrame y.v) := by rw [HY.out]; exact pack_next hlt
      obtain ⟨L, HL⟩ : ∃ L, Hid (L = packB fr up (l.take k)) := ⟨_, rfl⟩
      have hLs : L.length ≤ 77 * (2 + 2 * l.length) := by rw [HL.out]; exact HPS.out k
      obtain ⟨W, hW⟩ : ∃ W, W = wr.alloc (.cells #[.string (bs y.k), .string (bs y.v)] 117) := ⟨_, rfl⟩
      obtain ⟨A, HA⟩ : ∃ A, Hid (A = wr.heap.size) := ⟨_, rfl⟩
      have KW : Hid (Kept Nil wr W) := by rw [hW]; exact (Kept.refl _ _).alloc _
      have HAW : Hid (W.heap[A]? = some (.cells #[.string (bs y.k), .string (bs y.v)] 117 (0, 0))) := by rw [hW, HA.out]; exact blk_new _ _
      have HBW : Hid (Bld B B L W) := by rw [HL.out]; exact HBk.out.kept KW.out
      have HBs : Hid (B ≤ W.heap.size) := by rw [HB.out]; exact Nat.le_trans HK.out.size KW.out.size
      have HAB : Hid (A ≠ B) := by
        rcases HBk.out with h | h <;> (have := h.lt; show _ ≠ _; rw [HA.out]; omega)
      have F1 := packF_any B B L y.k W HBW.out (by have := HYO.out.2.1; omega) (by omega) HBs.out
      have q0 : W.cell? ⟨A, 0, none⟩ = some (.string (bs y.k)) := blk_at HAW.out 0 rfl
      go_upto_region 8 with fail
      rw [← hW, ← HA.out]
      clear hW
      go_wp2_with fail
      go_fit F1
      rintro e w3 ⟨rfl, h3, k3⟩
      have HK3 : Hid (Kept Nil w w3) := (HK.out.trans KW.out).newT k3 (by rw [HB.out]; exact Nat.le_refl _)
      have HA3 : Hid (w3.heap[A]? = some (.cells #[.string (bs y.k), .string (bs y.v)] 117 (0, 0))) := k3.block _ _ HAW.out (fun e => by rcases e.2 with ⟨_, e⟩ | ⟨_, e⟩ <;> cases e)
      have hkm := encFrame_max (s := y.k) (by have := HYO.out.2.1; omega)
      have F2 := packF_any B B (L ++ encFrame y.k) y.v w3 h3 (by have := HYO.out.2.2.1; omega) (by rw [List.length_append]; omega) (Nat.le_trans HBs.out k3.size)
      have q1 : w3.cell? ⟨A, 1, none⟩ = some (.string (bs y.v)) := blk_at HA3.out 1 rfl
      clear F1 q0 h3 k3
      go_wp2_with fail
      go_fit F2
      rintro e w4 ⟨rfl, h4, k4⟩
      have HK4 : Hid (Kept Nil w w4) := HK3.out.newT k4 (by rw [HB.out]; exact Nat.le_refl _)
      have HB4 : Hid (Bld B B (packB fr up (l.take (k + 1))) w4) := by rw [HN.out, ← HL.out]; exact h4
      clear F2 q1 h4 k4
      go_wp2
      go_roundw
      case rel => exact ⟨k + 1, by omega, by congr 1, HB4.out, HK4.out⟩
      case measure => simp [intOf]; omega
    · obtain rfl : k = l.length := by omega
      have HF : Hid (Bld B B (packB fr up l) wr) := by have := HBk.out; rwa [List.take_length] at this
      have ST := Try.Builder_String_any B B (packB fr up l) wr HF.out (by rw [HB.out]; exact HK.out.size)
      go_wp2_with fail
      go_fit ST
      rintro e w3 ⟨rfl, b3⟩
      go_wp2
      go_ret
      refine ⟨rfl, ?_⟩
      have hB := HB.out
      exact HK.out.newG ⟨b3.os, b3.tape, b3.output, b3.size, fun k o ho hx => by rw [b3.block k (by unfold Ge at hx; omega)]; exact ho⟩ (Nat.le_of_eq hB.symm)
end Go.Proofs.Ytpfgnhockfofhaa
