/-
  Joined: WDg5, WDg6.
-/
import Derived.Test.YtpfgnhockfofhaaM05
import Derived.Test.YtpfgnhockfofhaaM06
import Derived.Test.YtpfgnhockfofhaaM03
import Derived.Deep.DeepCutAuto
/-
  Delegations: Set, New.
-/
namespace Go.Proofs.Ytpfgnhockfofhaa
open Go.RowKit

theorem Kept.newB {w a b : World} {g : Nat} (h : Kept Nil w a) (k : Kept (One g) a b) (hg : w.heap.size ≤ g) : Kept Nil w b := ⟨k.os.trans h.os, k.tape.trans h.tape, k.output.trans h.output, Nat.le_trans h.size k.size, fun q o ho _ => k.block q o (h.block q o ho (fun x => x)) (fun e => by have := lt_of_block ho; unfold One at e; omega)⟩
/-- What Set makes of bounds. -/
def setL (ps : List Bd) (fr up : List UInt8) (ho : Int) : List Bd := ps.take (ps.findIdx (geP fr)) ++ [⟨fr, ho⟩] ++ (if up = [] then [] else ⟨up, hoAt up ps⟩ :: ps.drop (ps.findIdx (gtP up)))
def setB (ps : List Bd) (fr up : List UInt8) (ho : Int) : List Bd := if someR fr up = true then compB (setL ps fr up ho) else ps

set_option maxRecDepth 100000 in
set_option maxHeartbeats 4000000 in
theorem set_any (B c : Nat) (a : Addr) (ps : List Bd) (fr up : List UInt8) (ho : Int) (w : World) (h : BdRow B w (some a) ps) (hs : SrtB ps) (hp : 0 < ps.length) (hlc : ps.length ≤ c) (hcm : c ≤ maxLen) (hl : (ps.length : Int) ≤ 5864062014800) (hf : fr.length ≤ maxLen) (hu : up.length ≤ maxLen) :
    Calls Try.prog 55 #[.slice (some a) ps.length c, .string (bs fr), .string (bs up), .int .i64 ho] w fun e w' => ∃ g c', e = .returned (.slice (some ⟨g, 0, none⟩) (setB ps fr up ho).length c') ∧ OwnB w.heap.size w' (some ⟨g, 0, none⟩) c' (setB ps fr up ho) ∧ Kept Nil w w' := by
  obtain ⟨rs, HRS⟩ : ∃ rs, Hid (rs = setB ps fr up ho) := ⟨_, rfl⟩
  rw [← HRS.out]
  obtain ⟨i0, hi, hz0, hz1, hz2⟩ := info_parts Try.infoBd
  obtain ⟨W, hW⟩ : ∃ W, W = (w.alloc (.cells #[.string (bs fr)] 9)).alloc (.cells #[.string (bs up)] 9) := ⟨_, rfl⟩
  have KW : Hid (Kept Nil w W) := by rw [hW]; exact ((Kept.refl _ _).alloc _).alloc _
  have s1 : (w.alloc (.cells #[.string (bs fr)] 9)).heap.size = w.heap.size + 1 := by simp
  have h5 : Hid (W.cell? ⟨w.heap.size, 0, none⟩ = some (.string (bs fr))) := by rw [hW]; exact blk_at (blk_past (blk_new w (.cells #[.string (bs fr)] 9)) _) 0 rfl
  have h6 : Hid (W.cell? ⟨w.heap.size + 1, 0, none⟩ = some (.string (bs up))) := by rw [hW, ← s1]; exact blk_at (blk_new _ (.cells #[.string (bs up)] 9)) 0 rfl
  have SS : ∀ X, Kept Nil W X → X.cell? ⟨w.heap.size, 0, none⟩ = some (.string (bs fr)) ∧ X.cell? ⟨w.heap.size + 1, 0, none⟩ = some (.string (bs up)) := fun X kX => ⟨cell_kept kX (fun _ x => x) h5.out, cell_kept kX (fun _ x => x) h6.out⟩
  have HR : Hid (BdRow B W (some a) ps) := h.nil KW.out
  have HSo := some_any fr up W
  have hcm : c ≤ 9223372036854775807 := hcm
  obtain ⟨q5, q6⟩ := SS W (Kept.refl _ _)
  clear s1 h5 h6
  cases hsm : someR fr up with
  | false =>
    rw [hsm] at HSo
    have HE : Hid (rs = ps) := by show _ = _; rw [HRS.out]; unfold setB; rw [hsm]; rfl
    have CL := cloneB_any B c a ps W HR.out (by omega)
    clear hsm h
    go_enter Try.func55, Try.ntmps55
    go_wp2_with fail
    rw [← hW]
    clear hW
    go_wp2_with fail
    go_fit HSo
    rintro e w1 ⟨rfl, hw1⟩
    rw [hw1]
    clear hw1 w1
    go_wp2_with fail
    go_fit CL
    rintro e w1 ⟨ao', c', rfl, o1, k1⟩
    have HO1 : Hid (OwnB W.heap.size w1 ao' c' ps) := o1
    have K1 : Hid (Kept Nil W w1) := k1
    clear o1 k1 CL
    go_wp2
    go_ret
    obtain ⟨g, e, _⟩ := HO1.out.cells hp
    refine ⟨g, c', by rw [HE.out, ← e]; rfl, ?_, KW.out.trans K1.out⟩
    rw [HE.out, ← e]
    exact HO1.out.mono KW.out.size
  | true =>
    rw [hsm] at HSo
    obtain ⟨n1, HN1⟩ : ∃ n, Hid (n = ps.findIdx (geP fr)) := ⟨_, rfl⟩
    have hn1 : n1 ≤ ps.length := by rw [HN1.out]; exact List.findIdx_le_length
    obtain ⟨n2, HN2⟩ : ∃ n, Hid (n = ps.findIdx (gtP up)) := ⟨_, rfl⟩
    have hn2 : n2 ≤ ps.length := by rw [HN2.out]; exact List.findIdx_le_length
    obtain ⟨hx, HX⟩ : ∃ n, Hid (n = hoAt up ps) := ⟨_, rfl⟩
    obtain ⟨L, HL⟩ : ∃ L : List Bd, Hid (L = ps.take n1 ++ [(⟨fr, ho⟩ : Bd)] ++ (if up = [] then [] else (⟨up, hx⟩ : Bd) :: ps.drop n2)) := ⟨_, rfl⟩
    have HE : Hid (rs = compB L) := by show _ = _; rw [HRS.out]; unfold setB setL; rw [hsm, if_pos rfl, ← HN1.out, ← HN2.out, ← HX.out, ← HL.out]
    have CA1 : ∀ X, Kept Nil W X → _ := fun X kX => count_any 71 B c a (.pointer (some ⟨w.heap.size, 0, none⟩)) (geP fr) ps X (HR.out.nil kX) (hs.ge fr) (by omega) (enters_of Try.func71 (by kernel_rfl) rfl) (fun Y kY x => setC1_any x w.heap.size fr Y (SS Y (kX.trans kY)).1)
    have CA2 : ∀ X, Kept Nil W X → _ := fun X kX => count_any 72 B c a (.pointer (some ⟨w.heap.size + 1, 0, none⟩)) (gtP up) ps X (HR.out.nil kX) (hs.gt up) (by omega) (enters_of Try.func72 (by kernel_rfl) rfl) (fun Y kY x => setC2_any x (w.heap.size + 1) up Y (SS Y (kX.trans kY)).2)
    have AT : ∀ X, Kept Nil W X → _ := fun X kX => at_any B c a ps up X (HR.out.nil kX) hs (by omega)
    have hlt : (ps.take n1).length = n1 := by rw [List.length_take]; omega
    have CL : ∀ X, Kept Nil W X → Calls Try.prog 45 #[.slice (some a) n1 c] X fun e w' => ∃ ao' c', e = .returned (.slice ao' n1 c') ∧ w'.ownsRow W.heap.size 120 2 (.slice ao' n1 c') n1 (bdCells (ps.take n1)) ∧ Kept Nil X w' := fun X kX => by
      have := cloneB_any B c a (ps.take n1) X ((HR.out.nil kX).take n1) (by omega)
      rw [hlt] at this
      refine this.mono ?_
      rintro e w' ⟨ao', c', e1, o1, k1⟩
      have o2 := o1.mono kX.size
      unfold OwnB at o2
      rw [hlt] at o2
      exact ⟨ao', c', e1, o2, k1⟩
    simp only [← HN1.out] at CA1
    simp only [← HN2.out] at CA2
    simp only [← HX.out] at AT
    have hn1i : (n1 : Int) ≤ (c : Int) := by omega
    have hn2i : (n2 : Int) ≤ (ps.length : Int) := by omega
    have HLe12 : Hid (up ≠ [] → n1 ≤ n2) := fun hne => by
      have hfu : lessB fr up = true := by unfold someR at hsm; cases up with | nil => exact absurd rfl hne | cons x t => simpa using hsm
      rw [HN2.out]
      by_cases hnn : ps.findIdx (gtP up) < n1
      · have hlp : ps.findIdx (gtP up) < ps.length := by omega
        have a1 : gtP up ps[ps.findIdx (gtP up)] = true := List.findIdx_getElem (w := hlp)
        have a2 : geP fr ps[ps.findIdx (gtP up)] = false := by
          have := List.not_of_lt_findIdx (p := geP fr) (xs := ps) (i := ps.findIdx (gtP up)) (by rw [← HN1.out]; exact hnn)
          simpa using this
        unfold gtP at a1
        unfold geP at a2
        have a3 : lessB ps[ps.findIdx (gtP up)].f fr = true := by simpa using a2
        have := less_trans (less_trans a1 a3) hfu
        rw [less_irrefl] at this
        cases this
      · omega
    have HLL : Hid (n1 + 1 ≤ maxLen ∧ (n1 + 1) * 24 ≤ 140737488355328) := by constructor <;> (try unfold maxLen) <;> omega
    have HL1 : Hid ((ps.take n1 ++ [(⟨fr, ho⟩ : Bd)]).length = n1 + 1) := by show _ = _; rw [List.length_append, hlt]; rfl
    have HFB : ∀ X Y : World, Kept Nil (X.alloc (.cells #[.string (bs fr), .int .i64 ho] 120)) Y → BdRow (X.heap.size + 1) Y (some ⟨X.heap.size, 0, none⟩) [⟨fr, ho⟩] := fun X Y k => (oneB_row X ⟨fr, ho⟩ hf).nil k
    have HFU : ∀ X Y : World, Kept Nil (X.alloc (.cells #[.string (bs up), .int .i64 hx] 120)) Y → BdRow (X.heap.size + 1) Y (some ⟨X.heap.size, 0, none⟩) [⟨up, hx⟩] := fun X Y k => (oneB_row X ⟨up, hx⟩ hu).nil k
    clear hsm h
    go_enter Try.func55, Try.ntmps55
    go_wp2_with fail
    rw [← hW]
    clear hW
    go_wp2_with fail
    go_fit HSo
    rintro e w1 ⟨rfl, hw1⟩
    rw [hw1]
    clear hw1 w1
    have CA1w := CA1 W (Kept.refl _ _)
    go_wp2_with fail
    go_fit CA1w
    rintro e w1 ⟨rfl, k1⟩
    have K1 : Hid (Kept Nil W w1) := k1
    clear k1 CA1 CA1w HSo
    go_upto_region 4 with fail
    go_cut [10] (fun x wc => ∃ ao c', x = .slice ao (n1 + 1) c' ∧ Hid (OwnB W.heap.size wc ao c' (ps.take n1 ++ [⟨fr, ho⟩])) ∧ Hid (Kept Nil W wc))
    case first =>
      have KD : Hid (Kept Nil W w1.drew) := K1.out.drew
      have KA : Hid (Kept Nil W (w1.drew.alloc (.cells #[.string (bs fr), .int .i64 ho] 120))) := K1.out.drew.alloc _
      have q5 := (SS w1 K1.out).1
      have CLd := CL w1.drew KD.out
      have CLa := CL _ KA.out
      have szA : (w1.drew.alloc (.cells #[.string (bs fr), .int .i64 ho] 120)).heap.size = w1.heap.size + 1 := by simp
      go_region_held3 (fun w' => w'.cell? ⟨w.heap.size, 0, none⟩ = some (.string (bs fr))) (first | assumption | go_keep) (first | (go_at_call 45; first | (go_fit CLd; rintro e w3 ⟨ao3, c3, rfl, o3, k3⟩; have HO3 : Hid (w3.ownsRow W.heap.size 120 2 (.slice ao3 n1 c3) n1 (bdCells (ps.take n1))) := o3; have K3 : Hid (Kept Nil W w3) := KD.out.trans k3; have s3 := (SS w3 K3.out).1; clear o3 k3) | (go_fit CLa; rintro e w3 ⟨ao3, c3, rfl, o3, k3⟩; have HO3 : Hid (w3.ownsRow W.heap.size 120 2 (.slice ao3 n1 c3) n1 (bdCells (ps.take n1))) := o3; have K3 : Hid (Kept Nil W w3) := KA.out.trans k3; have s3 := (SS w3 K3.out).1; have FB := HFB w1.drew w3 k3; clear o3 k3)) | (refine step_append_src w3 (by rfl) (.tmp 24) (.tmp 28) 103 103 (by rfl) W.heap.size 120 i0 (.agg #[.string ⟨#[]⟩, .int .i64 0]) 2 24 Try.underlying103 hi hz0 hz1 hz2 rfl (.slice ao3 n1 c3) n1 (bdCells (ps.take n1)) (by simp [Act.eval]) HO3.out (.slice (some ⟨w1.heap.size, 0, none⟩) 1 1) 1 [.string (bs fr), .int .i64 ho] (by simp [Act.eval]) FB.src HLL.out.1 HLL.out.2 K3.out.size ?_; intro ao4 c4 w4 ho4 hg4; have HO4 : Hid (OwnB W.heap.size w4 ao4 c4 (ps.take n1 ++ [⟨fr, ho⟩])) := OwnB.push (by rw [hlt]; exact ho4); have K4 : Hid (Kept Nil W w4) := K3.out.grown hg4 (fun k hk => own_row HO3.out k hk); have s4 := (SS w4 K4.out).1; clear ho4 hg4) | (refine step_append_src (w3.alloc (.cells #[.string (bs fr), .int .i64 ho] 120)) (by rfl) (.tmp 24) (.tmp 28) 103 103 (by rfl) W.heap.size 120 i0 (.agg #[.string ⟨#[]⟩, .int .i64 0]) 2 24 Try.underlying103 hi hz0 hz1 hz2 rfl (.slice ao3 n1 c3) n1 (bdCells (ps.take n1)) (by simp [Act.eval]) (World.ownsRow.alloc HO3.out _) (.slice (some ⟨w3.heap.size, 0, none⟩) 1 1) 1 [.string (bs fr), .int .i64 ho] (by simp [Act.eval]) (HFB w3 _ (Kept.refl _ _)).src HLL.out.1 HLL.out.2 (le_alloc K3.out.size _) ?_; intro ao4 c4 w4 ho4 hg4; have HO4 : Hid (OwnB W.heap.size w4 ao4 c4 (ps.take n1 ++ [⟨fr, ho⟩])) := OwnB.push (by rw [hlt]; exact ho4); have K4 : Hid (Kept Nil W w4) := (K3.out.alloc _).grown hg4 (fun k hk => own_row HO3.out k hk); have s4 := (SS w4 K4.out).1; clear ho4 hg4))
      all_goals go_wp2
      all_goals go_meet
      all_goals exact ⟨ao4, c4, rfl, HO4.out, K4.out⟩
    case rest =>
      obtain ⟨ao4, c4, rfl, HO4, K4⟩ := hcut
      rename World => w4
      obtain ⟨g4, e4, hb4, _⟩ := HO4.out.cells (by rw [HL1.out]; omega)
      cases e4
      have q6 := (SS w4 K4.out).2
      go_upto_region 5 with fail
      go_cut [31] (fun x wc => x = .bool (!decide (up = [])) ∧ wc = w4)
      case first =>
        have t1 := bs_toList up
        by_cases e : up = []
        · subst e
          go_wp2
          go_meet
          exact ⟨by simp, rfl⟩
        · go_wp2
          go_meet
          exact ⟨by simp [e], rfl⟩
      case rest =>
        obtain ⟨rfl, hwc⟩ := hcut
        rw [hwc]
        clear hwc
        go_upto_if 31 with fail
        go_cut [10] (fun x wc => ∃ g c', x = .slice (some ⟨g, 0, none⟩) L.length c' ∧ W.heap.size ≤ g ∧ Hid (OwnB W.heap.size wc (some ⟨g, 0, none⟩) c' L) ∧ Hid (Kept Nil W wc))
        case first =>
          by_cases e : up = []
          · have e1 : decide (up = []) = true := decide_eq_true e
            rw [e1]
            have HLe : Hid (L = ps.take n1 ++ [(⟨fr, ho⟩ : Bd)]) := by show _ = _; rw [HL.out, if_pos e, List.append_nil]
            clear e e1
            go_wp2
            go_meet
            exact ⟨g4, c4, by rw [HLe.out, HL1.out], hb4, by rw [HLe.out]; exact HO4.out, K4.out⟩
          · have e1 : decide (up = []) = false := decide_eq_false e
            rw [e1]
            have HLe : Hid (L = (ps.take n1 ++ [(⟨fr, ho⟩ : Bd)]) ++ [(⟨up, hx⟩ : Bd)] ++ ps.drop n2) := by show _ = _; rw [HL.out, if_neg e, List.append_assoc (_ ++ _)]; rfl
            have hle12 := HLe12.out e
            clear e e1
            have CA2w := CA2 w4 K4.out
            go_wp2_with fail
            go_fit CA2w
            rintro e w7 ⟨rfl, k7⟩
            have K7 : Hid (Kept Nil W w7) := K4.out.trans k7
            have HO7 : Hid (w7.ownsRow W.heap.size 120 2 (.slice (some ⟨g4, 0, none⟩) (n1 + 1) c4) (n1 + 1) (bdCells (ps.take n1 ++ [(⟨fr, ho⟩ : Bd)]))) := by
              have o := HO4.out.kept k7
              unfold OwnB at o
              rw [HL1.out] at o
              exact o
            clear k7 CA2w CA2 HO4 q6
            have q6 := (SS w7 K7.out).2
            have KD : Hid (Kept Nil W w7.drew) := K7.out.drew
            have ATw := AT w7.drew KD.out
            have HL2 : Hid (n1 + 1 + 1 ≤ maxLen ∧ (n1 + 1 + 1) * 24 ≤ 140737488355328) := by constructor <;> (try unfold maxLen) <;> omega
            go_wp2_with fail
            go_region_held3 (fun w' => w'.cell? ⟨w.heap.size + 1, 0, none⟩ = some (.string (bs up))) (first | assumption | go_keep) (first | (go_at_call 49; go_fit ATw; rintro e w8 ⟨rfl, k8⟩; have K8 : Hid (Kept Nil W w8) := KD.out.trans k8; have HO8 : Hid (w8.ownsRow W.heap.size 120 2 (.slice (some ⟨g4, 0, none⟩) (n1 + 1) c4) (n1 + 1) (bdCells (ps.take n1 ++ [(⟨fr, ho⟩ : Bd)]))) := own_kept HO7.out ((Kept.refl _ _).drew.trans k8) (fun _ _ _ x => x.elim); have s8 := (SS w8 K8.out).2; clear k8) | (refine step_append_src (w8.alloc (.cells #[.string (bs up), .int .i64 hx] 120)) (by rfl) (.tmp 35) (.tmp 41) 103 103 (by rfl) W.heap.size 120 i0 (.agg #[.string ⟨#[]⟩, .int .i64 0]) 2 24 Try.underlying103 hi hz0 hz1 hz2 rfl (.slice (some ⟨g4, 0, none⟩) (n1 + 1) c4) (n1 + 1) (bdCells (ps.take n1 ++ [(⟨fr, ho⟩ : Bd)])) (by simp [Act.eval]) (World.ownsRow.alloc HO8.out _) (.slice (some ⟨w8.heap.size, 0, none⟩) 1 1) 1 [.string (bs up), .int .i64 hx] (by simp [Act.eval]) (HFU w8 _ (Kept.refl _ _)).src HL2.out.1 HL2.out.2 (le_alloc K8.out.size _) ?_; intro ao9 c9 w9 ho9 hg9; have HO9 : Hid (OwnB W.heap.size w9 ao9 c9 (ps.take n1 ++ [(⟨fr, ho⟩ : Bd)] ++ [(⟨up, hx⟩ : Bd)])) := OwnB.push (by rw [HL1.out]; exact ho9); have K9 : Hid (Kept Nil W w9) := (K8.out.alloc _).grown hg9 (fun k hk => own_row HO8.out k hk); have s9 := (SS w9 K9.out).2; clear ho9 hg9))
            have HLn : Hid ((ps.take n1 ++ [(⟨fr, ho⟩ : Bd)] ++ [(⟨up, hx⟩ : Bd)]).length = n1 + 1 + 1) := by show _ = _; rw [List.length_append, HL1.out]; rfl
            have HO9b : Hid (w9.ownsRow W.heap.size 120 2 (.slice ao9 (n1 + 1 + 1) c9) (n1 + 1 + 1) (bdCells (ps.take n1 ++ [(⟨fr, ho⟩ : Bd)] ++ [(⟨up, hx⟩ : Bd)]))) := by
              have o := HO9.out
              unfold OwnB at o
              rw [HLn.out] at o
              exact o
            have hdl : Hid ((ps.drop n2).length = ps.length - n2) := List.length_drop
            have HL3 : Hid (n1 + 1 + 1 + (ps.length - n2) ≤ maxLen ∧ (n1 + 1 + 1 + (ps.length - n2)) * 24 ≤ 140737488355328) := by
              have hle : n1 ≤ n2 := hle12
              constructor <;> (try unfold maxLen) <;> omega
            have hn3 : (ps.length : Int) ≤ (c : Int) := by omega
            by_cases hnc : n2 = c
            · have hnl : n2 = ps.length := by omega
              have HLd : Hid (L = ps.take n1 ++ [(⟨fr, ho⟩ : Bd)] ++ [(⟨up, hx⟩ : Bd)]) := by show _ = _; rw [HLe.out, List.drop_of_length_le (by omega : ps.length ≤ n2), List.append_nil]
              subst hnc
              subst hnl
              have SRC : Hid (Src Try.prog 2 103 (.slice (some a) 0 0) 0 [] w9) := (BdRow.src (B := 0) (w := w9) (ao := some a) (ps := []) (c := 0) (fun j hj => absurd hj (Nat.not_lt_zero _)) : _)
              have HL4 : Hid (n1 + 1 + 1 + 0 ≤ maxLen ∧ (n1 + 1 + 1 + 0) * 24 ≤ 140737488355328) := HL2.out
              go_wp2_with (at_builtin; go_must (refine wpList_append_src _ rfl _ _ 103 103 rfl W.heap.size 120 i0 (.agg #[.string ⟨#[]⟩, .int .i64 0]) 2 24 Try.underlying103 hi hz0 hz1 hz2 rfl _ _ _ rfl HO9b.out (.slice (some a) 0 0) 0 [] rfl SRC.out HL4.out.1 HL4.out.2 K9.out.size ?_); intro ao5 c5 w5 ho5 hg5; have HO5 : Hid (w5.ownsRow W.heap.size 120 2 (.slice ao5 (n1 + 1 + 1 + 0) c5) (n1 + 1 + 1 + 0) (bdCells (ps.take n1 ++ [(⟨fr, ho⟩ : Bd)] ++ [(⟨up, hx⟩ : Bd)]) ++ [])) := ho5; have K5 : Hid (Kept Nil W w5) := K9.out.grown hg5 (fun k hk => own_row HO9b.out k hk); clear ho5 hg5)
              have HOL : OwnB W.heap.size w5 ao5 c5 L := by
                have o := HO5.out
                rw [Nat.add_zero, List.append_nil] at o
                rw [HLd.out]
                unfold OwnB
                rw [HLn.out]
                exact o
              have HLL2 : L.length = n1 + 1 + 1 := by rw [HLd.out, HLn.out]
              obtain ⟨g5, e5, hb5, _⟩ := HOL.cells (by omega)
              cases e5
              go_meet
              exact ⟨g5, c5, by rw [HLL2], hb5, HOL, K5.out⟩
            · have hn4 : (n2 : Int) < (c : Int) := by omega
              have hn5 : n2 < c := by omega
              have SRC : Hid (Src Try.prog 2 103 (.slice (some (a.add (n2 * 2))) (ps.length - n2) (c - n2)) (ps.length - n2) (bdCells (ps.drop n2)) w9) := by
                have h := ((HR.out.nil K9.out).drop n2).src (c := c - n2)
                rw [hdl.out] at h
                exact h
              go_wp2_with (at_builtin; go_must (refine wpList_append_src _ rfl _ _ 103 103 rfl W.heap.size 120 i0 (.agg #[.string ⟨#[]⟩, .int .i64 0]) 2 24 Try.underlying103 hi hz0 hz1 hz2 rfl _ _ _ rfl HO9b.out (.slice (some (a.add (n2 * 2))) (ps.length - n2) (c - n2)) (ps.length - n2) (bdCells (ps.drop n2)) rfl SRC.out HL3.out.1 HL3.out.2 K9.out.size ?_); intro ao5 c5 w5 ho5 hg5; have HO5 : Hid (w5.ownsRow W.heap.size 120 2 (.slice ao5 (n1 + 1 + 1 + (ps.length - n2)) c5) (n1 + 1 + 1 + (ps.length - n2)) (bdCells (ps.take n1 ++ [(⟨fr, ho⟩ : Bd)] ++ [(⟨up, hx⟩ : Bd)]) ++ bdCells (ps.drop n2))) := ho5; have K5 : Hid (Kept Nil W w5) := K9.out.grown hg5 (fun k hk => own_row HO9b.out k hk); clear ho5 hg5)
              have HOL : OwnB W.heap.size w5 ao5 c5 L := by
                rw [HLe.out]
                exact OwnB.join (by rw [HLn.out, hdl.out]; exact HO5.out)
              have HLL2 : L.length = n1 + 1 + 1 + (ps.length - n2) := by rw [HLe.out, List.length_append, HLn.out, hdl.out]
              obtain ⟨g5, e5, hb5, _⟩ := HOL.cells (by omega)
              cases e5
              go_meet
              exact ⟨g5, c5, by rw [HLL2], hb5, HOL, K5.out⟩
        case rest =>
          obtain ⟨g5, c5, rfl, hb5, HO5, K5⟩ := hcut
          rename World => w5
          have CF := compactB_any W.heap.size c5 g5 L w5 HO5.out
          go_wp2_with fail
          go_fit CF
          rintro e w6 ⟨rfl, o6, k6⟩
          have HO6 : Hid (OwnB W.heap.size w6 (some ⟨g5, 0, none⟩) c5 (compB L)) := o6
          have K6 : Hid (Kept Nil w w6) := KW.out.trans (K5.out.newB k6 hb5)
          clear o6 k6 CF
          go_wp2
          go_ret
          exact ⟨g5, c5, by rw [HE.out]; rfl, by rw [HE.out]; exact HO6.out.mono KW.out.size, K6.out⟩
end Go.Proofs.Ytpfgnhockfofhaa

/-
  Delegations: New, Valid.
-/
namespace Go.Proofs.Ytpfgnhockfofhaa
open Go.RowKit

set_option maxRecDepth 100000 in
set_option maxHeartbeats 1000000 in
theorem new_any (ho : Int) (w : World) : Calls Try.prog 43 #[.int .i64 ho] w fun e w' => e = .returned (.slice (some ⟨w.heap.size, 0, none⟩) 1 1) ∧ OwnB w.heap.size w' (some ⟨w.heap.size, 0, none⟩) 1 [⟨[], ho⟩] ∧ Kept Nil w w' := by
  go_enter Try.func43, Try.ntmps43
  go_wp2
  go_ret
  exact ⟨rfl, World.ownsRow_lit w #[.string (bs []), .int .i64 ho] 1 (Nat.le_refl _) (by decide) rfl, (Kept.refl _ _).alloc _⟩

def bdOk (x : Bd) : Bool := isNd x.h && decide (x.f.length ≤ 16)
def vRise : Option Bd → List Bd → Bool
  | _, [] => true
  | p, x :: t => bdOk x && (match p with | none => true | some q => followB q x) && vRise (some x) t
def firstE : List Bd → Bool
  | [] => false
  | x :: _ => x.f.isEmpty
def validB (ps : List Bd) : Bool := firstE ps && vRise none ps

end Go.Proofs.Ytpfgnhockfofhaa
