/-
  Joined: WDg3.
-/
import Derived.Test.YtpfgnhockfofhaaM04
/-
  Delegations: At; Clone, IndexFunc, ContainsFunc, Has.
-/
namespace Go.Proofs.Ytpfgnhockfofhaa
open Go.RowKit

/-- Bounds rise. -/
def SrtB (ps : List Bd) : Prop := ps.Pairwise fun a b => lessB a.f b.f = true
theorem SrtB.at {ps : List Bd} (h : SrtB ps) {i j : Nat} (hi : i < ps.length) (hj : j < ps.length) (hij : i < j) : lessB ps[i].f ps[j].f = true := List.pairwise_iff_getElem.1 h i j hi hj hij
theorem SrtB.gt {ps : List Bd} (h : SrtB ps) (key : List UInt8) : MonB (gtP key) ps := fun i j hi hj hij hp => by
  by_cases e : i = j
  · subst e; exact hp
  · exact less_trans hp (h.at hi hj (by omega))
theorem SrtB.ge {ps : List Bd} (h : SrtB ps) (key : List UInt8) : MonB (geP key) ps := fun i j hi hj hij hp => by
  by_cases e : i = j
  · subst e; exact hp
  · unfold geP at *
    cases hx : lessB ps[j].f key with
    | false => rfl
    | true => rw [less_trans (h.at hi hj (by omega)) hx] at hp; cases hp
/-- Who has a key. -/
def hoAt (key : List UInt8) (ps : List Bd) : Int := if ps.findIdx (gtP key) = 0 then 0 else match ps[ps.findIdx (gtP key) - 1]? with | some x => x.h | none => 0
set_option maxRecDepth 100000 in
set_option maxHeartbeats 2000000 in
theorem at_any (B c : Nat) (a : Addr) (ps : List Bd) (key : List UInt8) (w : World) (h : BdRow B w (some a) ps) (hs : SrtB ps) (hl : (ps.length : Int) ≤ 4611686018427387903) :
    Calls Try.prog 49 #[.slice (some a) ps.length c, .string (bs key)] w fun e w' => e = .returned (.int .i64 (hoAt key ps)) ∧ Kept Nil w w' := by
  obtain ⟨z, HZ⟩ : ∃ z, Hid (z = hoAt key ps) := ⟨_, rfl⟩
  rw [← HZ.out]
  obtain ⟨W, hW⟩ : ∃ W, W = w.alloc (.cells #[.string (bs key)] 9) := ⟨_, rfl⟩
  have KW : Hid (Kept Nil w W) := by rw [hW]; exact (Kept.refl _ _).alloc _
  have h2 : Hid (W.cell? ⟨w.heap.size, 0, none⟩ = some (.string (bs key))) := by rw [hW]; exact blk_at (blk_new w (.cells #[.string (bs key)] 9)) 0 rfl
  have HR : Hid (BdRow B W (some a) ps) := h.nil KW.out
  have CA := count_any 58 B c a (.pointer (some ⟨w.heap.size, 0, none⟩)) (gtP key) ps W HR.out (hs.gt key) hl (enters_of Try.func58 (by kernel_rfl) rfl) (fun X kX x => atC_any x w.heap.size key X (cell_kept kX (fun _ x => x) h2.out))
  obtain ⟨n, HN⟩ : ∃ n, Hid (n = ps.findIdx (gtP key)) := ⟨_, rfl⟩
  rw [← HN.out] at CA
  have HL : Hid (n ≤ ps.length) := by show n ≤ _; rw [HN.out]; exact List.findIdx_le_length
  clear h hs
  go_enter Try.func49, Try.ntmps49
  go_wp2_with fail
  rw [← hW]
  clear hW
  go_fit CA
  rintro e w1 ⟨rfl, k1⟩
  have K1 : Hid (Kept Nil w w1) := KW.out.trans k1
  have HR1 : Hid (BdRow B w1 (some a) ps) := HR.out.nil k1
  clear k1 CA
  by_cases h0 : n = 0
  · have HF : Hid (z = 0) := by show _ = _; rw [HZ.out]; unfold hoAt; rw [← HN.out, if_pos h0]
    clear HN HZ HL
    subst h0
    go_wp2
    go_ret
    exact ⟨by rw [HF.out]; rfl, K1.out⟩
  · have hlt : n - 1 < ps.length := by have := HL.out; omega
    obtain ⟨c0, c1, _⟩ := HR1.out.at2 hlt
    have HF : Hid (z = ps[n - 1].h) := by show _ = _; rw [HZ.out]; unfold hoAt; rw [← HN.out, if_neg h0, List.getElem?_eq_getElem hlt]
    obtain ⟨y, HY⟩ : ∃ y : Bd, Hid (y = ps[n - 1]) := ⟨ps[n - 1], (rfl : ps[n - 1] = ps[n - 1])⟩
    rw [← HY.out] at c0 c1 HF
    have h1 : ¬ (n : Int) = 0 := by omega
    have h2 : ((n : Int) == 0) = false := beq_eq_false_iff_ne.2 h1
    have h3 : ((n : Int) - 1) < ps.length := by omega
    have h4 : 0 ≤ ((n : Int) - 1) := by omega
    go_wp2
    go_ret
    exact ⟨by rw [HF.out]; rfl, K1.out⟩

set_option maxRecDepth 100000 in
set_option maxHeartbeats 1000000 in
theorem cloneB_any (B c : Nat) (a : Addr) (ps : List Bd) (w : World) (h : BdRow B w (some a) ps) (hl : (ps.length : Int) ≤ 5864062014800) :
    Calls Try.prog 45 #[.slice (some a) ps.length c] w fun e w' => ∃ ao' c', e = .returned (.slice ao' ps.length c') ∧ OwnB w.heap.size w' ao' c' ps ∧ Kept Nil w w' := by
  obtain ⟨i0, hi, hz0, hz1, hz2⟩ := info_parts Try.infoBd
  have HS : Hid (Src Try.prog 2 103 (.slice (some a) ps.length c) ps.length (bdCells ps) (w.alloc (.cells #[] 120))) := (h.nil ((Kept.refl _ _).alloc _)).src
  have HO : Hid ((w.alloc (.cells #[] 120)).ownsRow w.heap.size 120 2 (.slice (some ⟨w.heap.size, 0, none⟩) 0 0) 0 []) := World.ownsRow_lit w #[] 0 (Nat.le_refl _) (by decide) rfl
  have HLL : Hid (0 + ps.length ≤ maxLen ∧ (0 + ps.length) * 24 ≤ 140737488355328) := by constructor <;> (try unfold maxLen) <;> omega
  have hnil : ∀ w : World, (binOp .eql 103 (.slice (some a) ps.length c) (.slice none 0 0)).run Try.prog w = .ok (.bool false) w := fun w => Lib.run_eql_slice_nil w 103 120 (some a) ps.length c 0 0 Try.underlying103
  clear h hl
  go_enter Try.func45, Try.ntmps45
  go_wp2_with (at_builtin; go_must (refine wpList_append_src _ rfl _ _ 103 103 rfl w.heap.size 120 i0 (.agg #[.string ⟨#[]⟩, .int .i64 0]) 2 24 Try.underlying103 hi hz0 hz1 hz2 rfl _ _ _ rfl HO.out (.slice (some a) ps.length c) ps.length (bdCells ps) rfl HS.out HLL.out.1 HLL.out.2 (by simp) ?_); intro ao' c' w1 ho' hg'; have HO1 : Hid (w1.ownsRow w.heap.size 120 2 (.slice ao' (0 + ps.length) c') (0 + ps.length) ([] ++ bdCells ps)) := ho'; have HG1 : Hid _ := hg'; clear ho' hg')
  go_ret
  have ho := HO1.out
  rw [Nat.zero_add, List.nil_append] at ho
  exact ⟨ao', c', rfl, ho, ((Kept.refl _ _).alloc _).grown HG1.out (fun k hk => own_row HO.out k hk)⟩

def plcB (p : Bd → Bool) (fs : List Bd) : Int := if fs.findIdx p < fs.length then (fs.findIdx p : Int) else -1
theorem plcB_hit {p : Bd → Bool} {fs : List Bd} {k : Nat} (hk : k < fs.length) (hp : p fs[k] = true) (hn : ∀ j, (hj : j < fs.length) → j < k → p fs[j] = false) : plcB p fs = k := by
  have : fs.findIdx p = k := (List.findIdx_eq hk).2 ⟨hp, fun j hj => hn j (by omega) hj⟩
  unfold plcB
  rw [this, if_pos hk]
theorem plcB_miss {p : Bd → Bool} {fs : List Bd} (hn : ∀ j, (hj : j < fs.length) → p fs[j] = false) : plcB p fs = -1 := by
  have : fs.findIdx p = fs.length := List.findIdx_eq_length.2 (fun x hx => by
    obtain ⟨j, hj, rfl⟩ := List.getElem_of_mem hx
    exact hn j hj)
  unfold plcB
  rw [this, if_neg (by omega)]
theorem plcB_any (p : Bd → Bool) (fs : List Bd) : decide (0 ≤ plcB p fs) = fs.any p := by
  by_cases h : fs.findIdx p < fs.length
  · have e : fs.any p = true := List.any_eq_true.2 ⟨_, List.getElem_mem h, List.findIdx_getElem⟩
    unfold plcB
    rw [if_pos h, e]
    simp
  · have e : fs.any p = false := by
      cases hx : fs.any p with
      | false => rfl
      | true => exact absurd (List.findIdx_lt_length.2 (List.any_eq_true.1 hx)) h
    unfold plcB
    rw [if_neg h, e]
    rfl
set_option maxRecDepth 100000 in
set_option maxHeartbeats 2000000 in
theorem indexB_any (N B c : Nat) (a : Addr) (d1 d2 d3 : Value) (p : Bd → Bool) (fs : List Bd) (w : World) (h : BdRow B w (some a) fs) (hl : (fs.length : Int) ≤ 9223372036854775807) (eg : ∀ (args : Array Value) (w : World), (callFunc N args).run Try.prog w = .ok (.enter N args) w) (PF : ∀ X, Kept Nil w X → ∀ e : Bd, Calls Try.prog N #[bdV e, d1, d2, d3] X fun r w' => r = .returned (.bool (p e)) ∧ Kept Nil X w') :
    Calls Try.prog 79 #[.slice (some a) fs.length c, .func (.func N) #[] #[d1, d2, d3]] w fun e w' => e = .returned (.int .i64 (plcB p fs)) ∧ Kept Nil w w' := by
  have HR : Hid (BdRow B w (some a) fs) := h
  unfold bdV at PF
  clear h
  go_enter Try.func79, Try.ntmps79
  go_wp2
  go_loopw [8] (fun i wr => ∃ k : Nat, k ≤ fs.length ∧ i = .int .i64 k ∧ Hid (∀ j, (hj : j < fs.length) → j < k → p fs[j] = false) ∧ Hid (Kept Nil w wr)) (fun i _ => fs.length - (intOf i).toNat)
  case atStart => exact ⟨0, Nat.zero_le _, rfl, fun j _ h => by omega, Kept.refl _ _⟩
  case round =>
    obtain ⟨k, hk, rfl, HN, HK⟩ := hrel
    by_cases hlt : k < fs.length
    · obtain ⟨c0, c1, _⟩ := (HR.out.nil HK.out).at2 hlt
      have hki : (k : Int) < fs.length := by omega
      obtain ⟨y, HY⟩ : ∃ y : Bd, Hid (y = fs[k]) := ⟨fs[k], (rfl : fs[k] = fs[k])⟩
      rw [← HY.out] at c0 c1
      have PY := PF wr HK.out y
      cases hp : p y with
      | true =>
        rw [hp] at PY
        have HPY : Hid (p y = true) := hp
        clear hp
        go_wp2_with fail
        go_fit PY
        rintro e w1 ⟨rfl, k1⟩
        have K1 : Hid (Kept Nil w w1) := HK.out.trans k1
        clear k1 PY
        go_wp2
        go_ret
        exact ⟨by rw [plcB_hit hlt (by rw [← HY.out]; exact HPY.out) HN.out]; rfl, K1.out⟩
      | false =>
        rw [hp] at PY
        have HPY : Hid (p y = false) := hp
        clear hp
        go_wp2_with fail
        go_fit PY
        rintro e w1 ⟨rfl, k1⟩
        have K1 : Hid (Kept Nil w w1) := HK.out.trans k1
        clear k1 PY
        go_wp2
        go_roundw
        case rel => exact ⟨k + 1, by omega, by go_num, fun j hj hjk => (by
          by_cases e : j = k
          · subst e; rw [← HY.out]; exact HPY.out
          · exact HN.out j hj (by omega)), K1.out⟩
        case measure => simp [intOf]; omega
    · obtain rfl : k = fs.length := by omega
      have hirr : ¬ (fs.length : Int) < fs.length := by omega
      go_wp2
      go_ret
      exact ⟨by rw [plcB_miss (fun j hj => HN.out j hj hj)]; rfl, HK.out⟩
set_option maxRecDepth 100000 in
set_option maxHeartbeats 2000000 in
theorem containsB_any (N B c : Nat) (a : Addr) (d1 d2 d3 : Value) (p : Bd → Bool) (fs : List Bd) (w : World) (h : BdRow B w (some a) fs) (hl : (fs.length : Int) ≤ 9223372036854775807) (eg : ∀ (args : Array Value) (w : World), (callFunc N args).run Try.prog w = .ok (.enter N args) w) (PF : ∀ X, Kept Nil w X → ∀ e : Bd, Calls Try.prog N #[bdV e, d1, d2, d3] X fun r w' => r = .returned (.bool (p e)) ∧ Kept Nil X w') :
    Calls Try.prog 63 #[.slice (some a) fs.length c, .func (.func N) #[] #[d1, d2, d3]] w fun e w' => e = .returned (.bool (fs.any p)) ∧ Kept Nil w w' := by
  have IX := indexB_any N B c a d1 d2 d3 p fs w h hl eg PF
  rw [← plcB_any]
  clear h PF
  go_enter Try.func63, Try.ntmps63
  go_wp2_with fail
  go_fit IX
  rintro e w1 ⟨rfl, k1⟩
  have K1 : Hid (Kept Nil w w1) := k1
  clear k1 IX
  go_wp2
  go_ret
  exact ⟨by first | rfl | simp, K1.out⟩

def hasB (ps : List Bd) (fr up : List UInt8) (ho : Int) : Bool := someR fr up && decide (hoAt fr ps = ho) && !ps.any (othP ho fr up)
set_option maxRecDepth 100000 in
set_option maxHeartbeats 4000000 in
theorem has_any (B c : Nat) (a : Addr) (ps : List Bd) (fr up : List UInt8) (ho : Int) (w : World) (h : BdRow B w (some a) ps) (hs : SrtB ps) (hl : (ps.length : Int) ≤ 4611686018427387903) :
    Calls Try.prog 51 #[.slice (some a) ps.length c, .string (bs fr), .string (bs up), .int .i64 ho] w fun e w' => e = .returned (.bool (hasB ps fr up ho)) ∧ Kept Nil w w' := by
  obtain ⟨z, HZ⟩ : ∃ z, Hid (z = hasB ps fr up ho) := ⟨_, rfl⟩
  rw [← HZ.out]
  obtain ⟨W, hW⟩ : ∃ W, W = ((w.alloc (.cells #[.string (bs fr)] 9)).alloc (.cells #[.string (bs up)] 9)).alloc (.cells #[.int .i64 ho] 3) := ⟨_, rfl⟩
  have KW : Hid (Kept Nil w W) := by rw [hW]; exact (((Kept.refl _ _).alloc _).alloc _).alloc _
  have s1 : (w.alloc (.cells #[.string (bs fr)] 9)).heap.size = w.heap.size + 1 := by simp
  have s2 : ((w.alloc (.cells #[.string (bs fr)] 9)).alloc (.cells #[.string (bs up)] 9)).heap.size = w.heap.size + 2 := by simp
  have h5 : Hid (W.cell? ⟨w.heap.size, 0, none⟩ = some (.string (bs fr))) := by rw [hW]; exact blk_at (blk_past (blk_past (blk_new w (.cells #[.string (bs fr)] 9)) _) _) 0 rfl
  have h6 : Hid (W.cell? ⟨w.heap.size + 1, 0, none⟩ = some (.string (bs up))) := by rw [hW, ← s1]; exact blk_at (blk_past (blk_new _ (.cells #[.string (bs up)] 9)) _) 0 rfl
  have h7 : Hid (W.cell? ⟨w.heap.size + 2, 0, none⟩ = some (.int .i64 ho)) := by rw [hW, ← s2]; exact blk_at (blk_new _ (.cells #[.int .i64 ho] 3)) 0 rfl
  have SS : ∀ X, Kept Nil W X → X.cell? ⟨w.heap.size, 0, none⟩ = some (.string (bs fr)) ∧ X.cell? ⟨w.heap.size + 1, 0, none⟩ = some (.string (bs up)) ∧ X.cell? ⟨w.heap.size + 2, 0, none⟩ = some (.int .i64 ho) := fun X kX => ⟨cell_kept kX (fun _ x => x) h5.out, cell_kept kX (fun _ x => x) h6.out, cell_kept kX (fun _ x => x) h7.out⟩
  have HR : Hid (BdRow B W (some a) ps) := h.nil KW.out
  have HSo := fun X => some_any fr up X
  have HAt : ∀ X, Kept Nil W X → _ := fun X kX => at_any B c a ps fr X (HR.out.nil kX) hs hl
  have HCo : ∀ X, Kept Nil W X → _ := fun X kX => containsB_any 60 B c a (.pointer (some ⟨w.heap.size + 2, 0, none⟩)) (.pointer (some ⟨w.heap.size, 0, none⟩)) (.pointer (some ⟨w.heap.size + 1, 0, none⟩)) (othP ho fr up) ps X (HR.out.nil kX) (by omega) (enters_of Try.func60 (by kernel_rfl) rfl) (fun Y kY x => hasC_any x (w.heap.size + 2) w.heap.size (w.heap.size + 1) ho fr up Y (SS Y (kX.trans kY)).2.2 (SS Y (kX.trans kY)).1 (SS Y (kX.trans kY)).2.1)
  have KD : Hid (Kept Nil W W.drew) := (Kept.refl _ _).drew
  have sW := SS W (Kept.refl _ _)
  have sD := SS W.drew KD.out
  obtain ⟨q5, q6, q7⟩ := sW
  obtain ⟨HS, eHS⟩ : ∃ b, b = someR fr up := ⟨_, rfl⟩
  obtain ⟨hx, HH⟩ : ∃ x, Hid (x = hoAt fr ps) := ⟨_, rfl⟩
  obtain ⟨hc, HC⟩ : ∃ x, Hid (x = ps.any (othP ho fr up)) := ⟨_, rfl⟩
  rw [← eHS] at HSo
  rw [← HH.out] at HAt
  rw [← HC.out] at HCo
  clear h hs s1 s2 h5 h6 h7
  cases HS with
  | false =>
    have HF : Hid (z = false) := by show _ = _; rw [HZ.out]; unfold hasB; rw [← eHS]; rfl
    clear HZ eHS HAt HCo
    go_enter Try.func51, Try.ntmps51
    go_wp2_with fail
    rw [← hW]
    clear hW
    go_quiet (first | (go_at_call 62; exact Calls.quiet_of_same (HSo _)))
    go_wp2
    go_ret
    exact ⟨by rw [HF.out]; rfl, KW.out.drewN _⟩
  | true =>
    by_cases hd : hx = ho
    · have HF : Hid (z = !hc) := by show _ = _; rw [HZ.out]; unfold hasB; rw [← eHS, ← HH.out, ← HC.out, hd]; simp
      clear HZ eHS
      have hd2 : (hx == ho) = true := by simp [hd]
      have hd3 : decide (hx = ho) = true := by simp [hd]
      go_enter Try.func51, Try.ntmps51
      go_wp2_with fail
      rw [← hW]
      clear hW
      go_region_held3 (fun w' => w'.cell? ⟨w.heap.size, 0, none⟩ = some (.string (bs fr)) ∧ w'.cell? ⟨w.heap.size + 1, 0, none⟩ = some (.string (bs up)) ∧ w'.cell? ⟨w.heap.size + 2, 0, none⟩ = some (.int .i64 ho)) (first | assumption | go_keep) (first | (go_at_call 62; go_fit (HSo W.drew); rintro e wa ⟨rfl, rfl⟩) | (go_at_call 49; go_fit (HAt W.drew KD.out); rintro e wb ⟨rfl, kb⟩; have Kb : Hid (Kept Nil W wb) := KD.out.trans kb; have sb := SS wb Kb.out) | (go_at_call 63; go_fit (HCo wb Kb.out); rintro e wc ⟨rfl, kc⟩; have Kc : Hid (Kept Nil W wc) := Kb.out.trans kc; have sc := SS wc Kc.out))
      go_wp2
      go_ret
      exact ⟨by rw [HF.out]; rfl, KW.out.trans Kc.out⟩
    · have HF : Hid (z = false) := by show _ = _; rw [HZ.out]; unfold hasB; rw [← eHS, ← HH.out]; simp [hd]
      clear HZ eHS HCo
      have hd2 : (hx == ho) = false := beq_eq_false_iff_ne.2 hd
      have hd3 : decide (hx = ho) = false := decide_eq_false hd
      go_enter Try.func51, Try.ntmps51
      go_wp2_with fail
      rw [← hW]
      clear hW
      first | (go_region_with (first | (go_at_call 62; go_fit (HSo W.drew); rintro e wa ⟨rfl, rfl⟩) | (go_at_call 49; go_fit (HAt W.drew KD.out); rintro e wb ⟨rfl, kb⟩; have Kb : Hid (Kept Nil W wb) := KD.out.trans kb; have sb := SS wb Kb.out; obtain ⟨q5b, q6b, q7b⟩ := sb))) | fail
      all_goals (go_wp2; go_ret)
      all_goals exact ⟨by rw [HF.out]; rfl, KW.out.trans Kb.out⟩


end Go.Proofs.Ytpfgnhockfofhaa
