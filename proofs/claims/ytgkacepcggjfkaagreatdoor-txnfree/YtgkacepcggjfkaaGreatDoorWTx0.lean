/-
  Transactions: what the library's package-level variables hold; strconv's and strings' answers over lists of bytes.
-/
import Derived.Test.YtgkacepcggjfkaaGreatDoorWOld
import Derived.Test.YtgkacepcggjfkaaGreatDoorWShT
import Derived.Test.YtgkacepcggjfkaaGreatDoorWTxM
namespace Go.Proofs.YtgkacepcggjfkaaGreatDoor
open Go.RowKit Go.Sort

/-- What a world holds in the library's variables. -/
structure LD (w : World) : Prop where
  m : ∃ m, w.cell? ⟨0, 0, none⟩ = some (.int .i64 m)
  s : ∃ tp p, w.var? Tryz.prog "strconv.ErrSyntax" = some #[.iface tp p]
  r : ∃ tp p, w.var? Tryz.prog "strconv.ErrRange" = some #[.iface tp p]
  t : Lib.TabIs Tryz.prog w "internal/strconv.uint64pow10" .u64 Lib.pow10Tab
theorem var_kept {X : Nat → Obj → Prop} {w w' : World} {n : String} {g : Nat} {cs : Array Value} (hg : Tryz.prog.globalNamed n = some g) (hX : ∀ o, ¬ X g o) (k : Kept X w w') (h : w.var? Tryz.prog n = some cs) : w'.var? Tryz.prog n = some cs := by
  unfold World.var? at h ⊢
  rw [hg] at h ⊢
  simp only [Option.bind_some] at h ⊢
  cases hb : w.heap[g]? with
  | none => rw [hb] at h; cases h
  | some o => rw [k.block _ _ hb (hX o), ← hb]; exact h
theorem LD.keptX {X : Nat → Obj → Prop} {w w' : World} (h : LD w) (k : Kept X w w') (hX : ∀ q o, q < 20 → ¬ X q o) : LD w' := by
  refine ⟨?_, ?_, ?_, ?_⟩
  · obtain ⟨m, hm⟩ := h.m
    refine ⟨m, ?_⟩
    have hlt : 0 < w.heap.size := World.block_lt_of_cell? w _ hm
    rw [World.cell?_of_block (w := w) (by rw [k.block 0 _ (Array.getElem?_eq_getElem hlt) (hX 0 _ (by omega)), Array.getElem?_eq_getElem hlt])]
    exact hm
  · obtain ⟨tp, p, hv⟩ := h.s
    exact ⟨tp, p, var_kept (show Tryz.prog.globalNamed "strconv.ErrSyntax" = some 3 by kernel_rfl) (fun o => hX 3 o (by decide)) k hv⟩
  · obtain ⟨tp, p, hv⟩ := h.r
    exact ⟨tp, p, var_kept (show Tryz.prog.globalNamed "strconv.ErrRange" = some 4 by kernel_rfl) (fun o => hX 4 o (by decide)) k hv⟩
  · exact var_kept (show Tryz.prog.globalNamed "internal/strconv.uint64pow10" = some 2 by kernel_rfl) (fun o => hX 2 o (by decide)) k h.t
theorem LD.kept {w w' : World} (h : LD w) (k : Kept Nil w w') : LD w' := h.keptX k (fun _ _ _ x => x.elim)

theorem kept_grow (w : World) (k : Nat) (os : Array Obj) : Kept Nil w (grow (w.drewN k) os) := by
  refine ⟨rfl, by simp [grow], rfl, by simp [grow], fun q o hq _ => ?_⟩
  have hlt : q < w.heap.size := by
    rcases Nat.lt_or_ge q w.heap.size with h | h
    · exact h
    · rw [Array.getElem?_eq_none h] at hq; cases hq
  show ((w.drewN k).heap ++ os)[q]? = some o
  have : (w.drewN k).heap = w.heap := by simp
  rw [this, Array.getElem?_append_left hlt]
  exact hq
/-- strconv.Itoa. -/
theorem itoa_any (n : Int) (h0 : -9223372036854775808 ≤ n) (h1 : n ≤ 9223372036854775807) (w : World) (hL : LD w) :
    Calls Tryz.prog 105 #[.int .i64 n] w fun e w' => e = .returned (.string (bs (Lib.itoa n))) ∧ Kept Nil w w' :=
  (Tryz.strconv_Itoa n h0 h1 w hL.t).mono (by
    rintro e w' ⟨rfl, k, os, rfl⟩
    exact ⟨rfl, kept_grow w k os⟩)
theorem itoa_nat (n : Nat) : Lib.itoa (n : Int) = Lib.decDigits n := by
  unfold Lib.itoa
  rw [if_neg (by omega)]
  rfl
/-- strconv.Atoi. -/
theorem atoi_any (l : List UInt8) (hl : l.length ≤ 281474976710656) (w : World) (hL : LD w) :
    Calls Tryz.prog 155 #[.string (bs l)] w fun e w' => ∃ v x, e = .returned (.tuple #[.int .i64 v, x]) ∧ Kept Nil w w' ∧ -9223372036854775808 ≤ v ∧ v ≤ 9223372036854775807 ∧ ((x = .nilIface ∧ Lib.atoiAll l = .ok v) ∨ ((∃ t a, x = .iface t (.pointer (some a))) ∧ ∀ u, Lib.atoiAll l ≠ .ok u)) := by
  have hsz : (bs l).size = l.length := bs_size l
  have hd : (bs l).data.toList = l := bs_data l
  cases ha : Lib.atoiAll l with
  | ok v =>
    have hb := Lib.atoiAll_bounds ha
    refine (Tryz.strconv_Atoi_ok (bs l) (by omega) v (by rw [hd]; exact ha) w).mono ?_
    rintro e w' ⟨rfl, hw⟩
    refine ⟨v, _, rfl, ?_, hb.1, hb.2, .inl ⟨rfl, rfl⟩⟩
    rcases hw with rfl | ⟨t, rfl⟩
    · exact Kept.refl _ _
    · exact Kept.ofBelow (Lib.bytesWorld_below _ _ _) _
  | «syntax» =>
    obtain ⟨tp, p, hv⟩ := hL.s
    refine (Tryz.strconv_Atoi_syntax_var (bs l) (by omega) (by rw [hd]; exact ha) tp p w hv).mono ?_
    rintro e w' ⟨N, rfl, _, _, hb⟩
    exact ⟨0, _, rfl, Kept.ofBelow hb _, by decide, by decide, .inr ⟨⟨_, _, rfl⟩, fun u h => by cases h⟩⟩
  | range =>
    obtain ⟨tp, p, hv⟩ := hL.r
    refine (Tryz.strconv_Atoi_range_var (bs l) (by omega) (by rw [hd]; exact ha) tp p w hv).mono ?_
    rintro e w' ⟨N, rfl, _, _, hb⟩
    have hs := Lib.atoiSat_bounds (bs l).data.toList
    exact ⟨_, _, rfl, Kept.ofBelow hb _, hs.1, hs.2, .inr ⟨⟨_, _, rfl⟩, fun u h => by cases h⟩⟩
/-- strings.Split at a blank. -/
theorem split_any (l : List UInt8) (hl : l.length < 4294967281) (w : World) (hL : LD w) :
    Calls Tryz.prog 120 #[.string (bs l), .string ⟨#[32]⟩] w fun e w' => e = .returned (.slice (some ⟨w.heap.size, 0, none⟩) (pcs l).length (pcs l).length) ∧ w' = w.alloc (.cells ((pcs l).map fun x => Value.string (bs x)).toArray 9) := by
  obtain ⟨m, hm⟩ := hL.m
  have hsz : (bs l).size = l.length := bs_size l
  have hd : (bs l).data.toList = l := bs_data l
  refine (Tryz.strings_Split (bs l) ⟨#[32]⟩ m w (by omega) hm (by decide)).mono ?_
  rintro e w' ⟨rfl, rfl⟩
  have hc : Lib.countB (bs l) ⟨#[32]⟩ = Lib.count l [32] := by
    unfold Lib.countB
    rw [hd]
  have hp : (Lib.splitB ⟨#[32]⟩ 0 (Lib.count l [32]) (bs l)).map Value.string = (pcs l).map fun x => Value.string (bs x) := by
    have := Lib.splitB_data ⟨#[32]⟩ 0 (Lib.count l [32]) (bs l)
    rw [hd] at this
    have h2 : (Lib.splitB ⟨#[32]⟩ 0 (Lib.count l [32]) (bs l)).map (fun s => s.data.toList) = pcs l := this.trans (split_pcs l)
    rw [← h2, List.map_map]
    refine List.map_congr_left fun s _ => ?_
    show Value.string s = Value.string (bs s.data.toList)
    rw [bs_self]
  rw [hc, count_pcs, hp]
  exact ⟨rfl, rfl⟩
end Go.Proofs.YtgkacepcggjfkaaGreatDoor
