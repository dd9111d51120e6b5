/-
  Which numbers may be, and numbers written one behind the other: the program's areFrom, AreNumbers, AreCounts, and its writer's numbers.
-/
import Derived.Test.YtnmkccdcgmajgaaWWrite
import Derived.Test.YtnmkccdcgmajgaaWFrame1
namespace Go.Proofs.Ytnmkccdcgmajgaa
open Go.RowKit

theorem blk_at {w : World} {b : Nat} {cs : Array Value} {t : TypeId} {v : Value} (h : w.heap[b]? = some (.cells cs t (0, 0))) (i : Nat) (hv : cs[i]? = some v) : w.cell? ⟨b, i, none⟩ = some v := (blk_cell h i).trans hv

/-- A row of ints in a block of its own. -/
def IntsAt (w : World) (b : Nat) (zs : List Int) : Prop := ∀ j, j < zs.length → w.cell? ⟨b, j, none⟩ = some (.int .i64 (zs.getD j 0))

def fromTo (least : Int) (zs : List Int) : Bool := zs.all fun z => decide (least ≤ z) && decide (z ≤ 1099511627775)

set_option maxRecDepth 100000 in
set_option maxHeartbeats 1000000 in
theorem areFrom_any (least : Int) (b cap : Nat) (zs : List Int) (w : World) (hc : IntsAt w b zs) (hl : zs.length ≤ 1099511627775) :
    Calls Try.prog 148 #[.int .i64 least, .slice (some ⟨b, 0, none⟩) zs.length cap] w fun e w' => e = .returned (.bool (fromTo least zs)) ∧ w' = w := by
  have hl' : (zs.length : Int) ≤ 1099511627775 := by omega
  have HC : Hid (IntsAt w b zs) := hc
  clear hc hl
  go_enter Try.func148, Try.ntmps148
  go_wp2
  go_loop [9] (fun i => ∃ k : Nat, k ≤ zs.length ∧ i = .int .i64 k ∧ Hid (fromTo least (zs.take k) = true)) (fun i => zs.length - (intOf i).toNat)
  case atStart => exact ⟨0, Nat.zero_le _, rfl, rfl⟩
  case round =>
    obtain ⟨k, hk, rfl, HT⟩ := hrel
    by_cases hlt : k < zs.length
    · have hcell := HC.out k hlt
      obtain ⟨z, hz⟩ : ∃ z, z = zs.getD k 0 := ⟨_, rfl⟩
      have HZ : Hid (zs.take (k + 1) = zs.take k ++ [z]) := by
        show zs.take (k + 1) = _
        rw [List.take_succ_eq_append_getElem hlt, hz]
        simp [List.getD_eq_getElem?_getD, hlt]
      have HG : Hid (zs = zs.take k ++ z :: zs.drop (k + 1)) := by
        show zs = _
        rw [hz]
        simp [List.getD_eq_getElem?_getD, hlt]
      rw [← hz] at hcell
      clear hz
      by_cases hin : least ≤ z ∧ z ≤ 1099511627775
      · obtain ⟨hin1, hin2⟩ := hin
        have HT2 : Hid (fromTo least (zs.take (k + 1)) = true) := by
          show fromTo least _ = true
          rw [HZ.out]
          have := HT.out
          simp only [fromTo, List.all_append, List.all_cons, List.all_nil, Bool.and_true] at this ⊢
          rw [this]; simp [hin1, hin2]
        go_wp2
        go_round
        case rel => exact ⟨k + 1, by omega, by go_num, HT2⟩
        case measure => simp [intOf]; omega
      · have HF : Hid (fromTo least zs = false) := by
          show fromTo least zs = false
          rw [HG.out]
          simp only [fromTo, List.all_append, List.all_cons]
          have : (decide (least ≤ z) && decide (z ≤ 1099511627775)) = false := by simp; omega
          rw [this]; simp
        by_cases h1 : z < least
        · clear hin
          go_wp2
          go_ret
          rw [HF.out]
          exact ⟨rfl, rfl⟩
        · have h2 : 1099511627775 < z := by omega
          clear hin
          go_wp2
          go_ret
          rw [HF.out]
          exact ⟨rfl, rfl⟩
    · have HF : Hid (fromTo least zs = true) := by
        have := HT.out
        rw [List.take_of_length_le (by omega)] at this
        exact this
      go_wp2
      go_ret
      rw [HF.out]
      exact ⟨rfl, rfl⟩

theorem areNumbers_any (b cap : Nat) (zs : List Int) (w : World) (hc : IntsAt w b zs) (hl : zs.length ≤ 1099511627775) :
    Calls Try.prog 108 #[.slice (some ⟨b, 0, none⟩) zs.length cap] w fun e w' => e = .returned (.bool (fromTo 0 zs)) ∧ w' = w := by
  have H := areFrom_any 0 b cap zs w hc hl
  clear hc hl
  go_enter Try.func108, Try.ntmps108
  go_wp2_with (go_at_call 148; go_must (refine H.mono ?_); rintro e w' ⟨rfl, rfl⟩)
  go_ret
  exact ⟨rfl, rfl⟩

theorem areCounts_any (b cap : Nat) (zs : List Int) (w : World) (hc : IntsAt w b zs) (hl : zs.length ≤ 1099511627775) :
    Calls Try.prog 122 #[.slice (some ⟨b, 0, none⟩) zs.length cap] w fun e w' => e = .returned (.bool (fromTo 1 zs)) ∧ w' = w := by
  have H := areFrom_any 1 b cap zs w hc hl
  clear hc hl
  go_enter Try.func122, Try.ntmps122
  go_wp2_with (go_at_call 148; go_must (refine H.mono ?_); rintro e w' ⟨rfl, rfl⟩)
  go_ret
  exact ⟨rfl, rfl⟩

/-- Numbers written one behind the other. -/
def encAll (ns : List Nat) : List UInt8 := ns.flatMap enc
def intsOf (ns : List Nat) : List Int := ns.map fun (n : Nat) => (n : Int)

theorem encAll_len (ns : List Nat) (h : ∀ n ∈ ns, n ≤ 1099511627775) : (encAll ns).length ≤ 6 * ns.length := by
  induction ns with
  | nil => simp [encAll]
  | cons n ns ih =>
    have h1 := enc_len6 (h n (by simp))
    have h2 := ih (fun m hm => h m (by simp [hm]))
    simp only [encAll, List.flatMap_cons, List.length_append, List.length_cons] at h2 ⊢
    omega

set_option maxRecDepth 100000 in
set_option maxHeartbeats 1000000 in
theorem wNumbers_any (b g cap : Nat) (cs : Array Value) (m : Nat × Nat) (ns : List Nat) (l : List UInt8) (w : World) (h : WInv b w l) (hg : w.heap[g]? = some (.cells cs 3 m)) (hgb : g ≠ b)
    (hc : IntsAt w g (intsOf ns)) (hn : ∀ n ∈ ns, n ≤ 1099511627775) (hnl : ns.length ≤ 10000000) (hl : l.length ≤ 100000000000) :
    Calls Try.prog 157 #[.pointer (some ⟨b, 0, none⟩), .slice (some ⟨g, 0, none⟩) ns.length cap] w fun e w' => e = .returned (.tuple #[]) ∧ WInv b w' (l ++ encAll ns) ∧ Kept (Wr b) w w' := by
  have hx : ¬ Wr b g (.cells cs 3 m) := by
    rintro (e | ⟨_, cs', m', e⟩)
    · exact hgb e
    · simp at e
  have HX : Hid (w.heap[g]? = some (.cells cs 3 m) ∧ ¬ Wr b g (.cells cs 3 m)) := ⟨hg, hx⟩
  have HC : Hid (IntsAt w g (intsOf ns)) := hc
  have HN : Hid (∀ n ∈ ns, n ≤ 1099511627775) := hn
  have HL : Hid (l.length ≤ 100000000000) := hl
  have hnl' : (ns.length : Int) ≤ 10000000 := by omega
  clear hg hx hc hn hl hgb
  go_enter Try.func157, Try.ntmps157
  go_wp2
  go_loopw [8] (fun i wr => ∃ k : Nat, k ≤ ns.length ∧ i = .int .i64 k ∧ WInv b wr (l ++ encAll (ns.take k)) ∧ Kept (Wr b) w wr) (fun i _ => ns.length - (intOf i).toNat)
  case atStart => exact ⟨0, Nat.zero_le _, rfl, by simpa [encAll] using h, .refl _ _⟩
  case round =>
    obtain ⟨k, hk, rfl, hinv, hkk⟩ := hrel
    by_cases hlt : k < ns.length
    · have hcell : wr.cell? ⟨g, k, none⟩ = some (.int .i64 (ns[k] : Nat)) := by
        rw [hkk.cell HX.out.1 HX.out.2 k, HC.out k (by simpa [intsOf] using hlt)]
        simp [intsOf, List.getD_eq_getElem?_getD, hlt]
      have hle := HN.out ns[k] (List.getElem_mem hlt)
      have HE : Hid ((l ++ encAll (ns.take k)) ++ enc ns[k] = l ++ encAll (ns.take (k + 1))) := by
        show _ = _
        rw [List.take_succ_eq_append_getElem hlt]
        simp only [encAll, List.flatMap_append, List.flatMap_cons, List.flatMap_nil, List.append_nil, List.append_assoc]
      have H := wNumber_any b ns[k] (l ++ encAll (ns.take k)) wr hinv hle (by
        have h1 := encAll_len (ns.take k) (fun n hn => HN.out n (List.mem_of_mem_take hn))
        have h2 := HL.out
        simp only [List.length_append, List.length_take] at h1 ⊢
        omega)
      rw [HE.out] at H
      obtain ⟨z, hz⟩ : ∃ z, z = ns[k] := ⟨_, rfl⟩
      rw [← hz] at hcell H
      have hle' : (z : Int) ≤ 1099511627775 := by omega
      clear hz hle hinv HE
      go_wp2_with (go_at_call 178; go_must (refine H.mono ?_); rintro e w' ⟨rfl, hinv', hk'⟩)
      go_roundw
      case rel => exact ⟨k + 1, by omega, by go_num, hinv', hkk.trans hk'⟩
      case measure => simp [intOf]; omega
    · go_wp2
      go_end0
      rw [List.take_of_length_le (by omega)] at hinv
      exact ⟨rfl, hinv, hkk⟩

end Go.Proofs.Ytnmkccdcgmajgaa
