/-
  Tables: rows of sessions (seven cells each); may a table be: by the program.
-/
import Derived.Test.YtijklginabipgaaWTab2
import Derived.Test.YtijklginabipgaaWTab4
namespace Go.Proofs.Ytijklginabipgaa
open Go.RowKit

structure Ss where
  cl : Int
  ls : Int
  kd : Int
  val : List UInt8
  ver : Int
  ks : List (List UInt8)
  sn : Int
/-- A row of sessions that lies, with its keys, below block B. -/
def SessRow (B : Nat) (w : World) (ao : Option Addr) (ss : List Ss) : Prop := ∀ j, (hj : j < ss.length) → ∃ a ao2 c2, ao = some a ∧ a.block < B ∧ w.cell? (a.add (j * 7)) = some (.int .i64 ss[j].cl) ∧ w.cell? ⟨(a.add (j * 7)).block, (a.add (j * 7)).off + 1, none⟩ = some (.int .i64 ss[j].ls) ∧ w.cell? ⟨(a.add (j * 7)).block, (a.add (j * 7)).off + 2, none⟩ = some (.int .i64 ss[j].kd) ∧ w.cell? ⟨(a.add (j * 7)).block, (a.add (j * 7)).off + 3, none⟩ = some (.string (bs ss[j].val)) ∧ w.cell? ⟨(a.add (j * 7)).block, (a.add (j * 7)).off + 4, none⟩ = some (.int .i64 ss[j].ver) ∧ w.cell? ⟨(a.add (j * 7)).block, (a.add (j * 7)).off + 5, none⟩ = some (.slice ao2 ss[j].ks.length c2) ∧ w.cell? ⟨(a.add (j * 7)).block, (a.add (j * 7)).off + 6, none⟩ = some (.int .i64 ss[j].sn) ∧ StrRow B w ao2 ss[j].ks ∧ (ss[j].ks.length : Int) ≤ 9223372036854775807 ∧ ss[j].val.length ≤ maxLen
theorem SessRow.kept {X : Nat → Obj → Prop} {B : Nat} {w w' : World} {ao : Option Addr} {ss : List Ss} (h : SessRow B w ao ss) (hk : Kept X w w') (hX : ∀ k o, k < B → ¬ X k o) : SessRow B w' ao ss := by
  intro j hj
  obtain ⟨a, ao2, c2, ha, hb, c0, c1, c2', c3, c4, c5, c6, hs, l1, l2⟩ := h j hj
  refine ⟨a, ao2, c2, ha, hb, cell_kept hk (fun o => ?_) c0, cell_kept hk (fun o => ?_) c1, cell_kept hk (fun o => ?_) c2', cell_kept hk (fun o => ?_) c3, cell_kept hk (fun o => ?_) c4, cell_kept hk (fun o => ?_) c5, cell_kept hk (fun o => ?_) c6, hs.kept hk hX, l1, l2⟩ <;> exact hX _ _ (by simpa [add_block] using hb)
theorem SessRow.nil {B : Nat} {w w' : World} {ao : Option Addr} {ss : List Ss} (h : SessRow B w ao ss) (hk : Kept Nil w w') : SessRow B w' ao ss := h.kept hk (fun _ _ _ x => x)
theorem SessRow.alloc {B : Nat} {w : World} {ao : Option Addr} {ss : List Ss} (h : SessRow B w ao ss) (o : Obj) : SessRow B (w.alloc o) ao ss := h.nil ((Kept.refl _ _).alloc o)
theorem sessRow_nil (B : Nat) (w : World) (ao : Option Addr) : SessRow B w ao [] := fun j hj => by simp at hj

def ssRs (s : Ss) : Bool := rsOk s.kd s.val s.ver s.ks
def ssOk (tm : Int) (s : Ss) : Bool := isCnt s.cl && (isNum s.ls && isNum s.sn) && decide (s.sn ≤ tm) && ssRs s
def sRise (tm : Int) : Option Int → List Ss → Bool
  | _, [] => true
  | p, s :: t => ssOk tm s && (match p with | none => true | some q => decide (q < s.cl)) && sRise tm (some s.cl) t
def spv (ss : List Ss) (k : Nat) : Option Int := if k = 0 then none else (ss[k - 1]?).map Ss.cl
theorem sRise_at {tm : Int} {ss : List Ss} {k : Nat} (h : k < ss.length) : sRise tm (spv ss k) (ss.drop k) = (ssOk tm ss[k] && (match spv ss k with | none => true | some q => decide (q < ss[k].cl)) && sRise tm (spv ss (k + 1)) (ss.drop (k + 1))) := by
  have e : spv ss (k + 1) = some ss[k].cl := by simp [spv, h]
  rw [List.drop_eq_getElem_cons h, e]
  rfl
theorem sRise_end {tm : Int} {ss : List Ss} {k : Nat} (h : ¬ k < ss.length) : sRise tm (spv ss k) (ss.drop k) = true := by
  rw [List.drop_of_length_le (by omega)]
  unfold sRise
  cases spv ss k <;> rfl
def tabOk (tm : Int) (ps : List Pr) (ss : List Ss) : Bool := isNum tm && pairsOk ps && decide (ss.length ≤ 8) && sRise tm none ss
theorem ints2k (w : World) (o o' : Obj) (x y : Int) (b : Nat) (hb : b = w.heap.size + 2) : IntsAt (((w.alloc o).alloc o').alloc (.cells #[.int .i64 x, .int .i64 y] 3)) b [x, y] := by
  have := ints2 (w.alloc o) o' x y
  rw [show (w.alloc o).heap.size + 1 = b by rw [hb]; simp] at this
  exact this

set_option maxRecDepth 100000 in
set_option maxHeartbeats 4000000 in
theorem isTable_any (B cp cs : Nat) (tm : Int) (ao so : Option Addr) (ps : List Pr) (ss : List Ss) (w : World) (h : PairRow B w ao ps) (h2 : SessRow B w so ss) (hl : (ps.length : Int) ≤ 9223372036854775807) (hl2 : (ss.length : Int) ≤ 9223372036854775807) :
    Calls Try.prog 108 #[.agg #[.slice ao ps.length cp, .slice so ss.length cs, .int .i64 tm]] w fun e w' => e = .returned (.bool (tabOk tm ps ss)) ∧ Kept Nil w w' := by
  have HR : Hid (SessRow B w so ss) := h2
  have ht := bs_toList
  have hsz := bs_size
  have HN0 := areNumbers_any (w.heap.size + 1) 1 [tm] _ (ints1k w (.cells #[.slice ao ps.length cp, .slice so ss.length cs, .int .i64 tm] 65) tm _ rfl) (by simp)
  rw [fromTo_one] at HN0
  have VA := isPairs_any B cp ao ps _ ((h.alloc (.cells #[.slice ao ps.length cp, .slice so ss.length cs, .int .i64 tm] 65)).alloc (.cells #[.int .i64 tm] 3)) hl
  have HB0 : Hid (((w.alloc (.cells #[.slice ao ps.length cp, .slice so ss.length cs, .int .i64 tm] 65)).alloc (.cells #[.int .i64 tm] 3)).heap[w.heap.size]? = some (.cells #[.slice ao ps.length cp, .slice so ss.length cs, .int .i64 tm] 65)) := blk_past (blk_new w _) _
  have HK0 : Hid (Kept Nil w ((w.alloc (.cells #[.slice ao ps.length cp, .slice so ss.length cs, .int .i64 tm] 65)).alloc (.cells #[.int .i64 tm] 3))) := ((Kept.refl _ _).alloc _).alloc _
  have HO : Hid (tabOk tm ps ss = (isNum tm && pairsOk ps && decide (ss.length ≤ 8) && sRise tm none ss)) := rfl
  rw [HO.out]
  generalize isNum tm = b1 at *
  generalize pairsOk ps = b2 at *
  clear h h2 HO
  cases b1 with
  | false =>
    simp only [Bool.false_and]
    go_enter Try.func108, Try.ntmps108
    go_wp2_with fail
    refine HN0.mono ?_
    rintro e w1 ⟨rfl, rfl⟩
    go_wp2
    go_ret
    exact ⟨rfl, HK0.out⟩
  | true =>
    cases b2 with
    | false =>
      simp only [Bool.and_false, Bool.false_and]
      go_enter Try.func108, Try.ntmps108
      go_wp2_with fail
      refine HN0.mono ?_
      rintro e w1 ⟨rfl, rfl⟩
      go_wp2_with fail
      refine VA.mono ?_
      rintro e w2 ⟨rfl, k2⟩
      go_wp2
      go_ret
      exact ⟨rfl, HK0.out.trans k2⟩
    | true =>
      simp only [Bool.true_and]
      by_cases h8 : ss.length ≤ 8
      · have h8' : (ss.length : Int) ≤ 8 := by omega
        rw [decide_eq_true h8]
        simp only [Bool.true_and]
        clear h8
        go_enter Try.func108, Try.ntmps108
        go_wp2_with fail
        refine HN0.mono ?_
        rintro e w1 ⟨rfl, rfl⟩
        go_wp2_with fail
        refine VA.mono ?_
        rintro e w2 ⟨rfl, k2⟩
        have HB2 : Hid (w2.heap[w.heap.size]? = some (.cells #[.slice ao ps.length cp, .slice so ss.length cs, .int .i64 tm] 65)) := k2.block _ _ HB0.out (fun x => x.elim)
        have HK2 : Hid (Kept Nil w w2) := HK0.out.trans k2
        have q1 := blk_at HB2.out 1 rfl
        have q2 := blk_at HB2.out 2 rfl
        clear k2 HB0 HK0 HN0 VA
        go_wp2
        go_loopw [25] (fun i wr => ∃ k : Nat, k ≤ ss.length ∧ i = .int .i64 k ∧ Hid (sRise tm none ss = sRise tm (spv ss k) (ss.drop k)) ∧ Hid (Kept Nil w wr) ∧ Hid (wr.heap[w.heap.size]? = some (.cells #[.slice ao ps.length cp, .slice so ss.length cs, .int .i64 tm] 65))) (fun i _ => ss.length - (intOf i).toNat)
        case atStart => exact ⟨0, Nat.zero_le _, rfl, rfl, HK2.out, HB2.out⟩
        case round =>
          obtain ⟨k, hk, rfl, HI, HK, HB⟩ := hrel
          clear HB2 HK2 q1 q2
          by_cases hlt : k < ss.length
          · obtain ⟨a, ao2, c2, rfl, _, hc0, hc1, hc2, hc3, hc4, hc5, hc6, hst, hm1, hm2⟩ := (HR.out.nil HK.out) k hlt
            have HA : Hid (sRise tm none ss = (ssOk tm ss[k] && (match spv ss k with | none => true | some q => decide (q < ss[k].cl)) && sRise tm (spv ss (k + 1)) (ss.drop (k + 1)))) := HI.out.trans (sRise_at hlt)
            have HC := areCounts_any (wr.heap.size + 1) 1 [ss[k].cl] _ (ints1k wr (.cells #[.int .i64 ss[k].cl, .int .i64 ss[k].ls, .int .i64 ss[k].kd, .string (bs ss[k].val), .int .i64 ss[k].ver, .slice ao2 ss[k].ks.length c2, .int .i64 ss[k].sn] 133) ss[k].cl _ rfl) (by simp)
            have ef : fromTo 1 [ss[k].cl] = isCnt ss[k].cl := by simp [fromTo, isCnt]
            rw [ef] at HC
            have HN := areNumbers_any (wr.heap.size + 2) 2 [ss[k].ls, ss[k].sn] _ (ints2k wr (.cells #[.int .i64 ss[k].cl, .int .i64 ss[k].ls, .int .i64 ss[k].kd, .string (bs ss[k].val), .int .i64 ss[k].ver, .slice ao2 ss[k].ks.length c2, .int .i64 ss[k].sn] 133) (.cells #[.int .i64 ss[k].cl] 3) ss[k].ls ss[k].sn _ rfl) (by simp)
            have ef2 : fromTo 0 [ss[k].ls, ss[k].sn] = (isNum ss[k].ls && isNum ss[k].sn) := by simp [fromTo, isNum]
            rw [ef2] at HN
            have HRS := isResult_any B c2 ss[k].kd ss[k].ver ss[k].val ao2 ss[k].ks _ (((hst.alloc (.cells #[.int .i64 ss[k].cl, .int .i64 ss[k].ls, .int .i64 ss[k].kd, .string (bs ss[k].val), .int .i64 ss[k].ver, .slice ao2 ss[k].ks.length c2, .int .i64 ss[k].sn] 133)).alloc (.cells #[.int .i64 ss[k].cl] 3)).alloc (.cells #[.int .i64 ss[k].ls, .int .i64 ss[k].sn] 3)) hm1 hm2
            have HRS : Calls Try.prog 160 _ _ fun e w' => e = .returned (.bool (ssRs ss[k])) ∧ Kept Nil _ w' := HRS
            have u0 : (((wr.alloc (.cells #[.int .i64 ss[k].cl, .int .i64 ss[k].ls, .int .i64 ss[k].kd, .string (bs ss[k].val), .int .i64 ss[k].ver, .slice ao2 ss[k].ks.length c2, .int .i64 ss[k].sn] 133)).alloc (.cells #[.int .i64 ss[k].cl] 3)).alloc (.cells #[.int .i64 ss[k].ls, .int .i64 ss[k].sn] 3)).cell? ⟨wr.heap.size, 0, none⟩ = some (.int .i64 ss[k].cl) := blk_at (blk_past (blk_past (blk_new wr _) _) _) 0 rfl
            have t1 : (((wr.alloc (.cells #[.int .i64 ss[k].cl, .int .i64 ss[k].ls, .int .i64 ss[k].kd, .string (bs ss[k].val), .int .i64 ss[k].ver, .slice ao2 ss[k].ks.length c2, .int .i64 ss[k].sn] 133)).alloc (.cells #[.int .i64 ss[k].cl] 3)).alloc (.cells #[.int .i64 ss[k].ls, .int .i64 ss[k].sn] 3)).cell? ⟨w.heap.size, 1, none⟩ = some (.slice (some a) ss.length cs) := blk_at (blk_past (blk_past (blk_past HB.out _) _) _) 1 rfl
            have t2 : (((wr.alloc (.cells #[.int .i64 ss[k].cl, .int .i64 ss[k].ls, .int .i64 ss[k].kd, .string (bs ss[k].val), .int .i64 ss[k].ver, .slice ao2 ss[k].ks.length c2, .int .i64 ss[k].sn] 133)).alloc (.cells #[.int .i64 ss[k].cl] 3)).alloc (.cells #[.int .i64 ss[k].ls, .int .i64 ss[k].sn] 3)).cell? ⟨w.heap.size, 2, none⟩ = some (.int .i64 tm) := blk_at (blk_past (blk_past (blk_past HB.out _) _) _) 2 rfl
            have HK1 : Hid (Kept Nil w ((wr.alloc (.cells #[.int .i64 ss[k].cl, .int .i64 ss[k].ls, .int .i64 ss[k].kd, .string (bs ss[k].val), .int .i64 ss[k].ver, .slice ao2 ss[k].ks.length c2, .int .i64 ss[k].sn] 133)).alloc (.cells #[.int .i64 ss[k].cl] 3))) := (HK.out.alloc _).alloc _
            have HK2 : Hid (Kept Nil w (((wr.alloc (.cells #[.int .i64 ss[k].cl, .int .i64 ss[k].ls, .int .i64 ss[k].kd, .string (bs ss[k].val), .int .i64 ss[k].ver, .slice ao2 ss[k].ks.length c2, .int .i64 ss[k].sn] 133)).alloc (.cells #[.int .i64 ss[k].cl] 3)).alloc (.cells #[.int .i64 ss[k].ls, .int .i64 ss[k].sn] 3))) := HK1.out.alloc _
            have HB3 : Hid ((((wr.alloc (.cells #[.int .i64 ss[k].cl, .int .i64 ss[k].ls, .int .i64 ss[k].kd, .string (bs ss[k].val), .int .i64 ss[k].ver, .slice ao2 ss[k].ks.length c2, .int .i64 ss[k].sn] 133)).alloc (.cells #[.int .i64 ss[k].cl] 3)).alloc (.cells #[.int .i64 ss[k].ls, .int .i64 ss[k].sn] 3)).heap[w.heap.size]? = some (.cells #[.slice ao ps.length cp, .slice (some a) ss.length cs, .int .i64 tm] 65)) := blk_past (blk_past (blk_past HB.out _) _) _
            have hki : (k : Int) < ss.length := by omega
            clear HI ef ef2 hst hm1 hm2 HB
            cases hcl : isCnt ss[k].cl with
            | false =>
              have HF : Hid (sRise tm none ss = false) := by show sRise tm none ss = _; rw [HA.out]; unfold ssOk; rw [hcl]; rfl
              rw [hcl] at HC
              generalize ss[k].cl = cl at *
              generalize ss[k].ls = ls at *
              generalize ss[k].kd = kd at *
              generalize ss[k].val = val at *
              generalize ss[k].ver = ver at *
              generalize ss[k].ks.length = kl at *
              generalize ss[k].sn = sn at *
              clear HA HN HRS hcl u0 t1 t2 HB3
              go_wp2_with fail
              refine HC.mono ?_
              rintro e w1 ⟨rfl, rfl⟩
              go_wp2
              go_ret
              rw [HF.out]
              exact ⟨rfl, HK1.out⟩
            | true =>
              rw [hcl] at HC
              cases hns : (isNum ss[k].ls && isNum ss[k].sn) with
              | false =>
                have HF : Hid (sRise tm none ss = false) := by show sRise tm none ss = _; rw [HA.out]; unfold ssOk; rw [hcl, hns]; rfl
                rw [hns] at HN
                generalize ss[k].cl = cl at *
                generalize ss[k].ls = ls at *
                generalize ss[k].kd = kd at *
                generalize ss[k].val = val at *
                generalize ss[k].ver = ver at *
                generalize ss[k].ks.length = kl at *
                generalize ss[k].sn = sn at *
                clear HA HRS hcl hns u0 t1 t2 HB3
                go_wp2_with fail
                refine HC.mono ?_
                rintro e w1 ⟨rfl, rfl⟩
                go_wp2_with fail
                refine HN.mono ?_
                rintro e w1 ⟨rfl, rfl⟩
                go_wp2
                go_ret
                rw [HF.out]
                exact ⟨rfl, HK2.out⟩
              | true =>
                rw [hns] at HN
                by_cases hsn : ss[k].sn ≤ tm
                · cases hrs : ssRs ss[k] with
                  | false =>
                    have HF : Hid (sRise tm none ss = false) := by show sRise tm none ss = _; rw [HA.out]; unfold ssOk; rw [hrs]; simp
                    rw [hrs] at HRS
                    generalize ss[k].cl = cl at *
                    generalize ss[k].ls = ls at *
                    generalize ss[k].kd = kd at *
                    generalize ss[k].val = val at *
                    generalize ss[k].ver = ver at *
                    generalize ss[k].ks.length = kl at *
                    generalize ss[k].sn = sn at *
                    clear HA hcl hns hrs HB3
                    go_wp2_with fail
                    refine HC.mono ?_
                    rintro e w1 ⟨rfl, rfl⟩
                    go_wp2_with fail
                    refine HN.mono ?_
                    rintro e w1 ⟨rfl, rfl⟩
                    go_wp2_with fail
                    refine HRS.mono ?_
                    rintro e w3 ⟨rfl, k3⟩
                    have K3 : Hid (Kept Nil w w3) := HK2.out.trans k3
                    have r0 : w3.cell? ⟨wr.heap.size, 0, none⟩ = some (.int .i64 cl) := cell_kept k3 (fun _ x => x) u0
                    have r1 : w3.cell? ⟨w.heap.size, 1, none⟩ = some (.slice (some a) ss.length cs) := cell_kept k3 (fun _ x => x) t1
                    go_wp2
                    go_ret
                    rw [HF.out]
                    exact ⟨rfl, K3.out⟩
                  | true =>
                    rw [hrs] at HRS
                    have hok : ssOk tm ss[k] = true := by unfold ssOk; rw [hcl, hns, hrs, decide_eq_true hsn]; rfl
                    by_cases k0 : k = 0
                    · have b5 : decide (0 < k) = false := decide_eq_false (by omega)
                      have hpv : spv ss k = none := by simp [spv, k0]
                      have HF : Hid (sRise tm none ss = sRise tm (spv ss (k + 1)) (ss.drop (k + 1))) := by show sRise tm none ss = _; rw [HA.out, hpv, hok]; rfl
                      generalize ss[k].cl = cl at *
                      generalize ss[k].ls = ls at *
                      generalize ss[k].kd = kd at *
                      generalize ss[k].val = val at *
                      generalize ss[k].ver = ver at *
                      generalize ss[k].ks.length = kl at *
                      generalize ss[k].sn = sn at *
                      clear HA hcl hns hrs hok k0 hpv
                      go_wp2_with fail
                      refine HC.mono ?_
                      rintro e w1 ⟨rfl, rfl⟩
                      go_wp2_with fail
                      refine HN.mono ?_
                      rintro e w1 ⟨rfl, rfl⟩
                      go_wp2_with fail
                      refine HRS.mono ?_
                      rintro e w3 ⟨rfl, k3⟩
                      have K3 : Hid (Kept Nil w w3) := HK2.out.trans k3
                      have r0 : w3.cell? ⟨wr.heap.size, 0, none⟩ = some (.int .i64 cl) := cell_kept k3 (fun _ x => x) u0
                      have r1 : w3.cell? ⟨w.heap.size, 1, none⟩ = some (.slice (some a) ss.length cs) := cell_kept k3 (fun _ x => x) t1
                      have HB4 := k3.block _ _ HB3.out (fun x => x.elim)
                      go_wp2
                      go_quiet (fail)
                      go_wp2
                      go_roundw
                      case rel => exact ⟨k + 1, by omega, by go_num, HF, K3.out.drewN _, HB4⟩
                      case measure => simp [intOf]; omega
                    · obtain ⟨a', _, _, ha', _, hprev, _⟩ := (HR.out.nil HK2.out) (k - 1) (by omega)
                      simp only [Option.some.injEq] at ha'
                      subst ha'
                      have hpv : spv ss k = some ss[k - 1].cl := by simp [spv, k0, show k - 1 < ss.length by omega]
                      rw [hpv] at HA
                      simp only at HA
                      have hkp : (0 : Int) < (k : Int) := by omega
                      have hkq : (0 : Int) ≤ (k : Int) - 1 := by omega
                      have hkr : (k : Int) - 1 < ss.length := by omega
                      have b5 : decide (0 < k) = true := decide_eq_true (by omega)
                      by_cases hls : ss[k - 1].cl < ss[k].cl
                      · have HF : Hid (sRise tm none ss = sRise tm (spv ss (k + 1)) (ss.drop (k + 1))) := by show sRise tm none ss = _; rw [HA.out, decide_eq_true hls, hok]; rfl
                        generalize ss[k].cl = cl at *
                        generalize ss[k].ls = ls at *
                        generalize ss[k].kd = kd at *
                        generalize ss[k].val = val at *
                        generalize ss[k].ver = ver at *
                        generalize ss[k].ks.length = kl at *
                        generalize ss[k].sn = sn at *
                        generalize ss[k - 1].cl = y at *
                        have b6 : decide (cl ≤ y) = false := decide_eq_false (by omega)
                        clear HA hcl hns hrs hok k0 hpv hls
                        go_wp2_with fail
                        refine HC.mono ?_
                        rintro e w1 ⟨rfl, rfl⟩
                        go_wp2_with fail
                        refine HN.mono ?_
                        rintro e w1 ⟨rfl, rfl⟩
                        go_wp2_with fail
                        refine HRS.mono ?_
                        rintro e w3 ⟨rfl, k3⟩
                        have K3 : Hid (Kept Nil w w3) := HK2.out.trans k3
                        have r0 : w3.cell? ⟨wr.heap.size, 0, none⟩ = some (.int .i64 cl) := cell_kept k3 (fun _ x => x) u0
                        have r1 : w3.cell? ⟨w.heap.size, 1, none⟩ = some (.slice (some a) ss.length cs) := cell_kept k3 (fun _ x => x) t1
                        have HB4 := k3.block _ _ HB3.out (fun x => x.elim)
                        have hprev2 : w3.cell? (a.add ((k - 1) * 7)) = some (.int .i64 y) := cell_kept k3 (fun _ x => x) hprev
                        clear k3
                        go_wp2
                        go_quiet (fail)
                        go_wp2
                        go_roundw
                        case rel => exact ⟨k + 1, by omega, by go_num, HF, K3.out.drewN _, HB4⟩
                        case measure => simp [intOf]; omega
                      · have HF : Hid (sRise tm none ss = false) := by show sRise tm none ss = _; rw [HA.out, decide_eq_false hls]; simp
                        generalize ss[k].cl = cl at *
                        generalize ss[k].ls = ls at *
                        generalize ss[k].kd = kd at *
                        generalize ss[k].val = val at *
                        generalize ss[k].ver = ver at *
                        generalize ss[k].ks.length = kl at *
                        generalize ss[k].sn = sn at *
                        generalize ss[k - 1].cl = y at *
                        have b6 : decide (cl ≤ y) = true := decide_eq_true (by omega)
                        clear HA hcl hns hrs hok k0 hpv hls
                        go_wp2_with fail
                        refine HC.mono ?_
                        rintro e w1 ⟨rfl, rfl⟩
                        go_wp2_with fail
                        refine HN.mono ?_
                        rintro e w1 ⟨rfl, rfl⟩
                        go_wp2_with fail
                        refine HRS.mono ?_
                        rintro e w3 ⟨rfl, k3⟩
                        have K3 : Hid (Kept Nil w w3) := HK2.out.trans k3
                        have r0 : w3.cell? ⟨wr.heap.size, 0, none⟩ = some (.int .i64 cl) := cell_kept k3 (fun _ x => x) u0
                        have r1 : w3.cell? ⟨w.heap.size, 1, none⟩ = some (.slice (some a) ss.length cs) := cell_kept k3 (fun _ x => x) t1
                        have HB4 := k3.block _ _ HB3.out (fun x => x.elim)
                        have hprev2 : w3.cell? (a.add ((k - 1) * 7)) = some (.int .i64 y) := cell_kept k3 (fun _ x => x) hprev
                        clear k3
                        go_wp2
                        go_quiet (fail)
                        go_wp2
                        go_ret
                        rw [HF.out]
                        exact ⟨rfl, K3.out.drewN _⟩
                · have HF : Hid (sRise tm none ss = false) := by show sRise tm none ss = _; rw [HA.out]; unfold ssOk; rw [decide_eq_false hsn]; simp
                  generalize ss[k].cl = cl at *
                  generalize ss[k].ls = ls at *
                  generalize ss[k].kd = kd at *
                  generalize ss[k].val = val at *
                  generalize ss[k].ver = ver at *
                  generalize ss[k].ks.length = kl at *
                  generalize ss[k].sn = sn at *
                  clear HA HRS hcl hns HB3
                  go_wp2_with fail
                  refine HC.mono ?_
                  rintro e w1 ⟨rfl, rfl⟩
                  go_wp2_with fail
                  refine HN.mono ?_
                  rintro e w1 ⟨rfl, rfl⟩
                  go_wp2
                  go_ret
                  rw [HF.out]
                  exact ⟨rfl, HK2.out⟩
          · have HF : Hid (sRise tm none ss = true) := HI.out.trans (sRise_end hlt)
            go_wp2
            go_ret
            rw [HF.out]
            exact ⟨rfl, HK.out⟩
      · have h8' : ¬ (ss.length : Int) ≤ 8 := by omega
        rw [decide_eq_false h8]
        simp only [Bool.false_and]
        clear h8
        go_enter Try.func108, Try.ntmps108
        go_wp2_with fail
        refine HN0.mono ?_
        rintro e w1 ⟨rfl, rfl⟩
        go_wp2_with fail
        refine VA.mono ?_
        rintro e w2 ⟨rfl, k2⟩
        have q1 := blk_at (k2.block _ _ HB0.out (fun x => x.elim)) 1 rfl
        go_wp2
        go_ret
        exact ⟨rfl, HK0.out.trans k2⟩

end Go.Proofs.Ytijklginabipgaa
