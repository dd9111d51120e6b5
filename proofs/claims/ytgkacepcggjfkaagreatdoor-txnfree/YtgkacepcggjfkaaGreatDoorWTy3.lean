/-
  The laws of transactions: what a part's row is made of, the place of a key.
-/
import Derived.Test.YtgkacepcggjfkaaGreatDoorWTyPl
import Derived.Test.YtgkacepcggjfkaaGreatDoorWTxC
import Derived.Deep.DeepCutAuto
import Derived.Deep.DeepFit
import Derived.Deep.RegionLaw
namespace Go.Proofs.YtgkacepcggjfkaaGreatDoor
open Go.RowKit

theorem pickT_val (c n : Int) (hn : 0 < n) : c % n = if c.tmod n < 0 then c.tmod n + n else c.tmod n := by
  have h1 := Int.emod_nonneg c (show n ≠ 0 by omega)
  have h2 := Int.emod_lt_of_pos c hn
  have h3 := Int.tmod_eq_emod (a := c) (b := n)
  have h4 : (n.natAbs : Int) = n := by omega
  split at h3 <;> split <;> omega
set_option maxRecDepth 100000 in
theorem pickT_any (c n : Int) (w : World) (hn : 0 < n) (hn2 : n ≤ 9223372036854775807) :
    Calls Tryz.prog 20 #[.int .i64 c, .int .i64 n] w fun e w' => e = .returned (.int .i64 (c % n)) ∧ w' = w := by
  have hv := pickT_val c n hn
  have h1 := Int.emod_nonneg c (show n ≠ 0 by omega)
  have h2 := Int.emod_lt_of_pos c hn
  have hne : (n == 0) = false := by simp; omega
  by_cases hneg : c.tmod n < 0
  · rw [if_pos hneg] at hv
    have HV : Hid (c % n = c.tmod n + n) := hv
    rw [hv] at h1 h2
    clear hv
    go_enter Tryz.func20, Tryz.ntmps20
    go_wp2
    go_ret
    rw [HV.out]
    exact ⟨rfl, rfl⟩
  · rw [if_neg hneg] at hv
    have HV : Hid (c % n = c.tmod n) := hv
    rw [hv] at h1 h2
    clear hv
    go_enter Tryz.func20, Tryz.ntmps20
    go_wp2
    go_ret
    rw [HV.out]
    exact ⟨rfl, rfl⟩
set_option maxRecDepth 100000 in
set_option maxHeartbeats 4000000 in
theorem keyAt_any (a : Nat) (k : List UInt8) (ha : keys4[a]? = some k) (w : World) :
    Calls Tryz.prog 22 #[.string (bs k)] w fun e w' => e = .returned (.int .i64 a) ∧ w' = w := by
  have ha4 : a < 4 := by
    obtain ⟨h, _⟩ := List.getElem?_eq_some_iff.1 ha
    exact h
  have hs : ∀ n : Nat, n < 4 → ∃ x : UInt8, keys4[n]? = some [x] ∧ ByteArray.extract ⟨#[97, 98, 99, 122]⟩ n (n + 1) = bs [x] := by
    intro n hn
    rcases (show n = 0 ∨ n = 1 ∨ n = 2 ∨ n = 3 by omega) with rfl | rfl | rfl | rfl
    · exact ⟨97, rfl, by kernel_rfl⟩
    · exact ⟨98, rfl, by kernel_rfl⟩
    · exact ⟨99, rfl, by kernel_rfl⟩
    · exact ⟨122, rfl, by kernel_rfl⟩
  have hne : ∀ n : Nat, n < a → keys4[n]? ≠ some k := by
    intro n hn e
    have := keys4_inj (i := n) (by omega) ha4 (e.trans ha.symm)
    omega
  have HA : Hid (keys4[a]? = some k) := ha
  have HS : Hid (∀ n : Nat, n < 4 → ∃ x : UInt8, keys4[n]? = some [x] ∧ ByteArray.extract ⟨#[97, 98, 99, 122]⟩ n (n + 1) = bs [x]) := hs
  have HN : Hid (∀ n : Nat, n < a → keys4[n]? ≠ some k) := hne
  clear ha hs hne
  go_enter Tryz.func22, Tryz.ntmps22
  go_wp2
  go_loopw [3] (fun u wr => ∃ n : Nat, n ≤ a ∧ u = .int .i64 n ∧ wr = w) (fun u _ => 4 - (intOf u).toNat)
  case atStart => exact ⟨0, by omega, rfl, rfl⟩
  case round =>
    obtain ⟨n, hn, rfl, hw⟩ := hrel
    subst hw
    have hn4 : (n : Int) < 4 := by omega
    obtain ⟨x, hx, hext⟩ := HS.out n (by omega)
    have hn0 : (0 : Int) ≤ (n : Int) := by omega
    have hn5 : (n : Int) + 1 ≤ 4 := by omega
    by_cases e : n = a
    · subst e
      have hk : k = [x] := Option.some.inj (HA.out.symm.trans hx)
      subst hk
      clear hx
      go_wp2
      go_ret
      exact ⟨rfl, rfl⟩
    · have hk : (bs k).toList ≠ (bs [x]).toList := by
        intro e2
        rw [bs_toList, bs_toList] at e2
        exact HN.out n (by omega) (by rw [hx, e2])
      have hk2 : ((bs k).toList == (bs [x]).toList) = false := by simpa using hk
      clear hx
      go_wp2
      go_roundw
      case rel => exact ⟨n + 1, by omega, by go_num, by first | rfl | trivial⟩
      case measure => simp [intOf]; omega

/-! ### tamed -/
def lowK (i : Nat) : List UInt8 := [UInt8.ofNat (97 + i)]
/-- Parts of keys below the k-th, each once, rising. -/
structure TamK (k : Nat) (qs : List Pt) : Prop where
  rise : RiseT qs
  key : ∀ p ∈ qs, ∃ i, i < k ∧ p.k = lowK i
  add : ∀ p ∈ qs, -5 ≤ p.a ∧ p.a ≤ 9
  len : qs.length ≤ k
theorem low_less {i k : Nat} (h : i < k) (hk : k < 3) : lessB (lowK i) (lowK k) = true := by
  rcases (show (i = 0 ∧ k = 1) ∨ (i = 0 ∧ k = 2) ∨ (i = 1 ∧ k = 2) by omega) with ⟨rfl, rfl⟩ | ⟨rfl, rfl⟩ | ⟨rfl, rfl⟩ <;> decide
theorem TamK.push {k : Nat} {qs : List Pt} (h : TamK k qs) (hk : k < 3) {z : Int} (h0 : -5 ≤ z) (h1 : z ≤ 9) : TamK (k + 1) (qs ++ [⟨lowK k, z⟩]) := by
  refine ⟨fun i j hij hj => ?_, fun p hp => ?_, fun p hp => ?_, by simp; exact h.len⟩
  · rw [List.length_append] at hj
    by_cases e : j < qs.length
    · rw [List.getElem_append_left (by omega), List.getElem_append_left e]
      exact h.rise i j hij e
    · have ej : j = qs.length := by simp at hj; omega
      subst ej
      rw [List.getElem_append_left (by omega), List.getElem_append_right (by omega)]
      obtain ⟨n, hn, e2⟩ := h.key _ (List.getElem_mem (show i < qs.length by omega))
      rw [e2]
      simpa using low_less hn hk
  · rcases List.mem_append.1 hp with hp | hp
    · obtain ⟨i, hi, e⟩ := h.key p hp
      exact ⟨i, by omega, e⟩
    · rw [List.mem_singleton] at hp
      subst hp
      exact ⟨k, by omega, rfl⟩
  · rcases List.mem_append.1 hp with hp | hp
    · exact h.add p hp
    · rw [List.mem_singleton] at hp
      subst hp
      exact ⟨h0, h1⟩
theorem TamK.mono {k j : Nat} {qs : List Pt} (h : TamK k qs) (hk : k ≤ j) : TamK j qs :=
  ⟨h.rise, fun p hp => by obtain ⟨i, hi, e⟩ := h.key p hp; exact ⟨i, by omega, e⟩, h.add, by have := h.len; omega⟩
theorem TamK.nil : TamK 0 [] := ⟨fun i j _ hj => absurd hj (by simp), fun p hp => (by cases hp), fun p hp => (by cases hp), Nat.le_refl 0⟩
def Tam (qs : List Pt) : Prop := TamK 3 qs ∧ 1 ≤ qs.length
theorem pt_src (w : World) (p : Pt) : Src Tryz.prog 2 22 (.slice (some ⟨w.heap.size, 0, .none⟩) 1 1) 1 [.string (bs p.k), .int .i64 p.a] (w.alloc (.cells #[.string (bs p.k), .int .i64 p.a] 29)) := by
  refine Src.ofSlice _ Tryz.underlying22 ⟨w.heap.size, 0, .none⟩ 1 1 _ rfl ?_ (fun u hu => by simp at hu; rcases hu with rfl | rfl <;> rfl)
  intro j u hj
  rw [addr_addE, blk_cell (blk_new w (.cells #[.string (bs p.k), .int .i64 p.a] 29)), ← hj]
  simp
theorem ptCells_app (a b : List Pt) : ptCells (a ++ b) = ptCells a ++ ptCells b := by simp [ptCells]
theorem OwnT.app {B c n : Nat} {w : World} {ao : Option Addr} {ps : List Pt} {p : Pt} (hn : n = ps.length) (h : w.ownsRow B 29 2 (.slice ao (n + 1) c) (n + 1) (ptCells ps ++ [.string (bs p.k), .int .i64 p.a])) : OwnT B w ao c (ps ++ [p]) := by
  subst hn
  show World.ownsRow _ _ _ _ _ _ _
  rw [List.length_append, ptCells_app]
  exact h
theorem Kept.grown0 {w w1 w2 : World} {v : Value} (k : Kept Nil w w1) (hg : w1.grownBy w2 v.ownBlock) (hb : ∀ g, v.ownBlock = some g → w.heap.size ≤ g) : Kept Nil w w2 :=
  ⟨hg.os.trans k.os, hg.tape.trans k.tape, hg.output.trans k.output, Nat.le_trans k.size hg.size, fun q o hq _ => grown_blk hg (k.block q o hq (fun x => x)) (fun e => by have := hb q e; have := lt_of_block hq; omega)⟩
set_option maxRecDepth 100000 in
set_option maxHeartbeats 8000000 in
theorem tamed_any (B c : Nat) (ao : Option Addr) (ps : List Pt) (w : World) (h : PtRow B w ao ps) (hl : (ps.length : Int) ≤ 140737488355328) (hk : ∀ p ∈ ps, p.k.length ≤ 140737488355328) :
    Calls Tryz.prog 19 #[.slice ao ps.length c] w fun e w' => ∃ ao' c' qs, e = .returned (.slice ao' qs.length c') ∧ OwnT w.heap.size w' ao' c' qs ∧ Tam qs ∧ Kept Nil w w' := by
  have HR : Hid (PtRow B w ao ps) := h
  have HKL : Hid (∀ p ∈ ps, p.k.length ≤ 140737488355328) := hk
  obtain ⟨n0, Hn0⟩ : ∃ n, Hid (n = w.heap.size) := ⟨_, rfl⟩
  have HNw : Hid (w.heap.size ≤ n0) := by rw [Hn0.out]; exact Nat.le_refl _
  rw [← Hn0.out]
  have PK := fun z X => pickT_any z 3 X (by decide) (by decide)
  have PA := fun z X => pickT_any z 15 X (by decide) (by decide)
  have HS : Hid (∀ n : Nat, n < 3 → ByteArray.extract ⟨#[97, 98, 99]⟩ n (n + 1) = bs (lowK n)) := by
    intro n hn
    rcases (show n = 0 ∨ n = 1 ∨ n = 2 by omega) with rfl | rfl | rfl <;> kernel_rfl
  have HOZ : Hid (OwnT n0 w none 0 []) := World.ownsRow_nil w n0 29 2
  obtain ⟨i2, hi2, hx0, hx1, hx2⟩ := info_parts Tryz.infoPt
  clear h hk
  go_enter Tryz.func19, Tryz.ntmps19
  go_wp2_with fail
  go_loopw [3, 4] (fun u v wr => ∃ (k : Nat) (qs : List Pt) (qa : Option Addr) (qc : Nat), k ≤ 3 ∧ u = .slice qa qs.length qc ∧ v = .int .i64 k ∧ Hid (TamK k qs) ∧ Hid (OwnT n0 wr qa qc qs) ∧ Hid (Kept Nil w wr)) (fun _ v _ => 3 - (intOf v).toNat)
  case atStart => exact ⟨0, [], none, 0, by omega, rfl, rfl, TamK.nil, HOZ.out, Kept.refl _ _⟩
  case round =>
    obtain ⟨k, qs, qa, qc, hk3, rfl, rfl, HT, HO, HK⟩ := hrel
    obtain ⟨wo, hwo⟩ : ∃ x : World, x = wr := ⟨_, rfl⟩
    rw [← hwo] at HO HK ⊢
    clear hwo HOZ
    obtain ⟨m, HM⟩ : ∃ m, Hid (m = qs.length) := ⟨_, rfl⟩
    rw [← HM.out]
    have hm3 : m ≤ 3 := by rw [HM.out]; have := HT.out.len; omega
    by_cases hlt : k < 3
    · have hki : (k : Int) < 3 := by omega
      have hext := HS.out k hlt
      have hk0 : (0 : Int) ≤ (k : Int) := by omega
      have hk5 : (k : Int) + 1 ≤ 3 := by omega
      go_wp2_with fail
      go_loopw [3, 5] (fun v u wr => ∃ i : Nat, i ≤ ps.length ∧ v = .slice qa m qc ∧ u = .int .i64 i ∧ wr = wo) (fun _ u _ => ps.length - (intOf u).toNat)
      case atStart => exact ⟨0, Nat.zero_le _, rfl, rfl, rfl⟩
      case round =>
        obtain ⟨i, hi, rfl, rfl, hw⟩ := hrel
        subst hw
        by_cases hil : i < ps.length
        · have hii : (i : Int) < ps.length := by omega
          obtain ⟨a, e, _, c0, c1⟩ := (HR.out.keptX HK.out (fun _ _ _ x => x)) i hil
          subst e
          obtain ⟨y, HY⟩ : ∃ y : Pt, Hid (y = ps[i]) := ⟨ps[i], (rfl : ps[i] = ps[i])⟩
          rw [← HY.out] at c0 c1
          have hyl : (y.k.length : Int) ≤ 140737488355328 := by have := HKL.out ps[i] (List.getElem_mem hil); rw [← HY.out] at this; omega
          have hbs : (bs y.k).size = y.k.length := bs_size _
          have PK1 := PK ((y.k.length : Int) + i) wr
          go_wp2_with fail
          go_fit PK1
          rintro e w1 ⟨rfl, hw1⟩
          subst hw1
          obtain ⟨z, HZ⟩ : ∃ z, Hid (z = ((y.k.length : Int) + i) % 3) := ⟨_, rfl⟩
          rw [← HZ.out]
          clear PK1
          by_cases hz : z = (k : Int)
          · have hzb : (z == (k : Int)) = true := by simpa using hz
            obtain ⟨v, HV⟩ : ∃ v, Hid (v = y.a % 15) := ⟨_, rfl⟩
            have PA1 := fun X => PA y.a X
            rw [← HV.out] at PA1
            have hv0 : 0 ≤ v := by rw [HV.out]; exact Int.emod_nonneg _ (by decide)
            have hv1 : v < 15 := by rw [HV.out]; exact Int.emod_lt_of_pos _ (by decide)
            have HWr : Hid (w1.ownsRow n0 29 2 (.slice qa m qc) m (ptCells qs)) := by have := HO.out; unfold OwnT at this; rw [← HM.out] at this; exact this
            have SRx : Hid (Src Tryz.prog 2 22 (.slice (some ⟨w1.heap.size, 0, none⟩) 1 1) 1 [.string (bs (lowK k)), .int .i64 (v - 5)] (w1.drew.alloc (.cells #[.string (bs (lowK k)), .int .i64 (v - 5)] 29))) := pt_src w1.drew ⟨lowK k, v - 5⟩
            have HLL : Hid (m + 1 ≤ maxLen ∧ (m + 1) * 24 ≤ 140737488355328) := by constructor <;> (try unfold maxLen) <;> omega
            have hsz : n0 ≤ w1.heap.size := by rw [Hn0.out]; exact HK.out.size
            have hwr1 : IntKind.i64.wrap ((k : Int) + 1) = (k : Int) + 1 := (by rw [IntKind.wrap_i64]; omega)
            have hwr2 : IntKind.i64.wrap (v - 5) = v - 5 := (by rw [IntKind.wrap_i64]; omega)
            have hk6 : (0 : Int) ≤ (k : Int) + 1 := by omega
            have hk7 : (k : Int) ≤ (k : Int) + 1 := by omega
            have hk8 : ((k : Int) + 1).toNat = k + 1 := by omega
            go_upto_region 9 with fail
            go_region_law (first | (refine step_append_src (w1.drew.alloc (.cells #[.string (bs (lowK k)), .int .i64 (v - 5)] 29)) rfl (.tmp 27) (.tmp 40) 22 22 rfl n0 29 i2 (.agg #[.string ⟨#[]⟩, .int .i64 0]) 2 24 Tryz.underlying22 hi2 hx0 hx1 hx2 rfl (.slice qa m qc) m (ptCells qs) (by simp [Act.eval]) (World.ownsRow.alloc (w := w1.drew) HWr.out _) (.slice (some ⟨w1.heap.size, 0, none⟩) 1 1) 1 [.string (bs (lowK k)), .int .i64 (v - 5)] (by simp [Act.eval]) SRx.out HLL.out.1 HLL.out.2 (le_alloc (w := w1.drew) hsz _) ?_; intro a7 c7 w7 ho7 hg7; have HO7 : Hid (OwnT n0 w7 a7 c7 (qs ++ [⟨lowK k, v - 5⟩])) := OwnT.app HM.out ho7; have K7 : Hid (Kept Nil w w7) := Kept.grown0 ((HK.out.drew).alloc _) hg7 (fun g hg => by rw [← Hn0.out]; exact (World.ownsRow.lt HWr.out g hg).1); clear ho7 hg7) | (go_simp; go_at_call 20; go_must (go_fit (PA1 w1.drew)); rintro e _ ⟨rfl, hw9⟩; rw [hw9]))
            all_goals
              have HT7 : Hid (TamK (k + 1) (qs ++ [⟨lowK k, v - 5⟩])) := HT.out.push hlt (by omega) (by omega)
              go_wp2
              go_roundw
              case rel => exact ⟨k + 1, qs ++ [(⟨lowK k, v - 5⟩ : Pt)], a7, c7, by omega, by rw [List.length_append, HM.out]; rfl, by go_num, HT7.out, HO7.out, K7.out⟩
              case measure => simp [intOf]; omega
          · have hzb : (z == (k : Int)) = false := by simpa using hz
            go_wp2
            go_roundw
            case rel => exact ⟨i + 1, by omega, rfl, by go_num, by first | rfl | trivial⟩
            case measure => simp [intOf]; omega
        · obtain rfl : i = ps.length := by omega
          have hirr : ¬ (ps.length : Int) < ps.length := by omega
          have HT7 : Hid (TamK (k + 1) qs) := HT.out.mono (by omega)
          go_wp2
          go_roundw
          case rel => exact ⟨k + 1, qs, qa, qc, by omega, by rw [HM.out], by go_num, HT7.out, HO.out, HK.out⟩
          case measure => simp [intOf]; omega
    · obtain rfl : k = 3 := by omega
      have hirr : ¬ ((3 : Nat) : Int) < 3 := by omega
      rcases Nat.eq_zero_or_pos m with h0 | h0
      · subst h0
        obtain rfl : qs = [] := List.eq_nil_of_length_eq_zero HM.out.symm
        have HWr : Hid (wo.ownsRow n0 29 2 (.slice qa 0 qc) 0 (ptCells [])) := HO.out
        have SRx : Hid (Src Tryz.prog 2 22 (.slice (some ⟨wo.heap.size, 0, none⟩) 1 1) 1 [.string ⟨#[97]⟩, .int .i64 3] (wo.alloc (.cells #[.string ⟨#[97]⟩, .int .i64 3] 29))) := pt_src wo ⟨[97], 3⟩
        have HLL : Hid (0 + 1 ≤ maxLen ∧ (0 + 1) * 24 ≤ 140737488355328) := by constructor <;> (try unfold maxLen) <;> omega
        have hsz : n0 ≤ (wo.alloc (.cells #[.string ⟨#[97]⟩, .int .i64 3] 29)).heap.size := by rw [Hn0.out]; exact (HK.out.alloc _).size
        go_wp2_with (at_builtin; go_must (refine wpList_append_src _ rfl _ _ 22 22 rfl n0 29 i2 (.agg #[.string ⟨#[]⟩, .int .i64 0]) 2 24 Tryz.underlying22 hi2 hx0 hx1 hx2 rfl (.slice qa 0 qc) 0 (ptCells []) rfl (World.ownsRow.alloc HWr.out _) (.slice (some ⟨wo.heap.size, 0, none⟩) 1 1) 1 [.string ⟨#[97]⟩, .int .i64 3] rfl SRx.out HLL.out.1 HLL.out.2 hsz ?_); intro a7 c7 w7 ho7 hg7; have HO7 : Hid (OwnT n0 w7 a7 c7 ([] ++ [⟨[97], 3⟩])) := OwnT.app rfl ho7; have K7 : Hid (Kept Nil w w7) := Kept.grown0 (HK.out.alloc _) hg7 (fun g hg => by rw [← Hn0.out]; exact (World.ownsRow.lt HWr.out g hg).1); clear ho7 hg7)
        have HT7 : Hid (TamK 3 ([] ++ [⟨[97], 3⟩])) := (TamK.nil.push (z := 3) (by decide) (by decide) (by decide)).mono (by decide)
        go_ret
        exact ⟨a7, c7, [⟨[97], 3⟩], rfl, HO7.out, ⟨HT7.out, Nat.le_refl 1⟩, K7.out⟩
      · have hm0 : ((m : Int) == 0) = false := by simp; omega
        go_wp2
        go_ret
        exact ⟨qa, qc, qs, (by have e := HM.out; subst e; rfl), HO.out, ⟨HT.out, by rw [← HM.out]; exact h0⟩, HK.out⟩
end Go.Proofs.YtgkacepcggjfkaaGreatDoor
