/-
  kv: the document's get and put.
-/
import Derived.Test.YtflnjlbafchnaaaGreatDoorWKv12
import Derived.Deep.DeepCutAuto
import Derived.Deep.LoopGhost
namespace Go.Proofs.YtflnjlbafchnaaaGreatDoor
open Go.RowKit

theorem src_kv {w : World} (z : Pr) : Src Tryz.prog 3 55 (.slice (some ⟨w.heap.size, 0, none⟩) 1 1) 1 [.string (bs z.k), .string (bs z.v), .int .i64 z.n] (w.alloc (.cells #[.string (bs z.k), .string (bs z.v), .int .i64 z.n] 63)) := by
  refine Src.ofSlice _ Tryz.underlying55 _ 1 1 _ rfl ?_ ?_
  · intro j u hj
    match j, hj with
    | 0, hj | 1, hj | 2, hj =>
      simp at hj
      subst hj
      simp [Addr.add]
  · intro u hu
    simp at hu
    rcases hu with rfl | rfl | rfl <;> rfl

set_option maxRecDepth 100000 in
set_option maxHeartbeats 1000000 in
theorem refGet_any (B c : Nat) (ao : Option Addr) (ps : List Pr) (key : List UInt8) (w : World) (h : PairRow B w ao ps) (hs : Srt ps) (hl : (ps.length : Int) ≤ 9223372036854775807) :
    Calls Tryz.prog 132 #[.slice ao ps.length c, .string (bs key)] w fun e w' => e = .returned (.int .i64 (getP key ps)) ∧ w' = w := by
  have HR : Hid (PairRow B w ao ps) := h
  have HS : Hid (Srt ps) := hs
  have ht := bs_toList
  clear h hs
  go_enter Tryz.func132, Tryz.ntmps132
  go_wp2
  go_loopw [5] (fun i wr => ∃ k : Nat, k ≤ ps.length ∧ i = .int .i64 k ∧ Hid (∀ j, (hj : j < ps.length) → j < k → ps[j].k ≠ key) ∧ wr = w) (fun i _ => ps.length - (intOf i).toNat)
  case atStart => exact ⟨0, Nat.zero_le _, rfl, fun j _ h => by omega, rfl⟩
  case round =>
    obtain ⟨k, hk, rfl, HN, rfl⟩ := hrel
    by_cases hlt : k < ps.length
    · obtain ⟨a, rfl, hb, hc0, hc1, hc2, _, _⟩ := HR.out k hlt
      have hki : (k : Int) < ps.length := by omega
      obtain ⟨y, HY⟩ : ∃ y : List UInt8, Hid (y = ps[k].k) := ⟨ps[k].k, (rfl : ps[k].k = ps[k].k)⟩
      rw [← HY.out] at hc0
      by_cases he : y = key
      · subst he
        go_wp2
        go_ret
        exact ⟨by rw [getP_hit HS.out hlt HY.out.symm]; rfl, rfl⟩
      · have heb : (y == key) = false := beq_eq_false_iff_ne.2 he
        have HNE : Hid (y ≠ key) := he
        go_wp2
        go_roundw
        case rel => exact ⟨k + 1, by omega, by go_num, fun j hj hjk => (by
          by_cases e : j = k
          · subst e; rw [← HY.out]; exact HNE.out
          · exact HN.out j hj (by omega)), trivial⟩
        case measure => simp [intOf]; omega
    · obtain rfl : k = ps.length := by omega
      go_wp2
      go_ret
      exact ⟨by rw [getP_miss (fun j hj => HN.out j hj hj)]; rfl, rfl⟩

/-- What the document's call leaves: the pairs that came, or new ones; a result; all else as it was. -/
def RefApPost (w : World) (ao : Option Addr) (c : Nat) (ps PS : List Pr) (r : Rr) (e : Ending) (w' : World) : Prop :=
  ∃ ao' c' ko kc, e = .returned (.tuple #[.slice ao' PS.length c', rrV r ko kc]) ∧ ((PS = ps ∧ ao' = ao ∧ c' = c) ∨ OwnP w.heap.size w' ao' c' PS) ∧ OwnK w.heap.size w' ko kc r.ks ∧ Kept Nil w w'
theorem room_no {ps : List Pr} {n : Int} {x : List UInt8} (h : roomB ps.length n x = false) (key : List UInt8) (i : Nat) : putP key x n i ps = ps ∧ putRr x n ps.length = ⟨4, [], 0, []⟩ := ⟨if_pos h, if_pos h⟩
theorem room_yes {ps : List Pr} {n : Int} {x : List UInt8} (h : roomB ps.length n x = true) (key : List UInt8) (i : Nat) : putP key x n i ps = (if n = 0 then insP i ⟨key, x, n + 1⟩ ps else ps.set i ⟨key, x, n + 1⟩) ∧ putRr x n ps.length = ⟨1, [], n + 1, []⟩ := ⟨if_neg (by rw [h]; simp), if_neg (by rw [h]; simp)⟩
set_option maxRecDepth 100000 in
set_option maxHeartbeats 4000000 in
theorem refPutN_any (B c : Nat) (ao : Option Addr) (ps : List Pr) (key val : List UInt8) (w : World) (h : PairRow B w ao ps) (hok : pairsOk ps = true) (hrm : roomB ps.length (spotN key ps) val = false) :
    Calls Tryz.prog 133 #[.slice ao ps.length c, .string (bs key), .string (bs val)] w (RefApPost w ao c ps (putP key val (spotN key ps) (lowP key ps) ps) (putRr val (spotN key ps) ps.length)) := by
  obtain ⟨i0, hi, hz0, hz1, hz2⟩ := info_parts Tryz.infoPr
  obtain ⟨hl32, hsrt, hpr⟩ := pairs_ok hok
  obtain ⟨s1, s2, s3, _⟩ := spot_ok hok key
  obtain ⟨W, hW⟩ : ∃ W, W = w.alloc (.cells #[.int .i64 0, .string ⟨#[]⟩, .int .i64 0, .slice none 0 0] 50) := ⟨_, rfl⟩
  have KW : Hid (Kept Nil w W) := by rw [hW]; exact (Kept.refl _ _).alloc _
  have HN9 : Hid (W.heap[w.heap.size]? = some (.cells #[.int .i64 0, .string ⟨#[]⟩, .int .i64 0, .slice none 0 0] 50 (0, 0))) := by rw [hW]; exact blk_new _ _
  have HPW : Hid (New w w.heap.size) := Nat.le_refl _
  have HR : Hid (PairRow B W ao ps) := h.nil KW.out
  have GET := refGet_any B c ao ps key W HR.out hsrt (by omega)
  have hds : (bs val).size = val.length := bs_size _
  obtain ⟨n, HNn⟩ : ∃ n, Hid (n = spotN key ps) := ⟨_, rfl⟩
  rw [← HNn.out] at s1 s2 s3 hrm ⊢
  obtain ⟨PS, HPS⟩ : ∃ PS, Hid (PS = putP key val n (lowP key ps) ps) := ⟨_, rfl⟩
  obtain ⟨RR, HRR⟩ : ∃ RR, Hid (RR = putRr val n ps.length) := ⟨_, rfl⟩
  rw [← HPS.out, ← HRR.out]
  have HSrt : Hid (Srt ps) := hsrt
  have hpi : (ps.length : Int) ≤ 32 := by omega
  clear h hsrt
  have HE : Hid (PS = ps ∧ RR = ⟨4, [], 0, []⟩) := ⟨by rw [HPS.out]; exact (room_no hrm key _).1, by rw [HRR.out]; exact (room_no hrm key 0).2⟩
  by_cases h64 : val.length ≤ 64
  · have h64i : (val.length : Int) ≤ 64 := by omega
    cases ht : isThere key ps with
    | true =>
      obtain ⟨hlow, _, _, e3⟩ := there_at ht
      have hn0 : n ≠ 0 := s2.2 ht
      have hmx : n = 1099511627775 := by
        have hb := (prOk_iff (hpr _ (List.getElem_mem hlow))).2.2.2.2
        rw [← e3, ← HNn.out] at hb
        unfold roomB at hrm
        simp [hn0, h64] at hrm
        omega
      have hg : getP key ps = (lowP key ps : Int) := by unfold getP; rw [ht]; rfl
      rw [hg] at GET
      obtain ⟨a, rfl, _, _, _, hc2, _, _⟩ := HR.out (lowP key ps) hlow
      rw [← e3, ← HNn.out, hmx] at hc2
      have hki : ((lowP key ps : Nat) : Int) < ps.length := by omega
      generalize lowP key ps = q at *
      go_enter Tryz.func133, Tryz.ntmps133
      go_wp2_with fail
      rw [← hW]
      generalize w.heap.size = pr at *
      clear hW
      go_fit GET
      rintro _ W ⟨rfl, rfl⟩
      have r0 : W.cell? ⟨pr, 0, none⟩ = some (.int .i64 0) := blk_at HN9.out 0 rfl
      have r1 : W.cell? ⟨pr, 1, none⟩ = some (.string ⟨#[]⟩) := blk_at HN9.out 1 rfl
      have r2 : W.cell? ⟨pr, 2, none⟩ = some (.int .i64 0) := blk_at HN9.out 2 rfl
      have r3 : W.cell? ⟨pr, 3, none⟩ = some (.slice none 0 0) := blk_at HN9.out 3 rfl
      have z0 : W.frozen? ⟨pr, 0, none⟩ = false := blk_free HN9.out 0
      have z1 : W.frozen? ⟨pr, 1, none⟩ = false := blk_free HN9.out 1
      have z2 : W.frozen? ⟨pr, 2, none⟩ = false := blk_free HN9.out 2
      have z3 : W.frozen? ⟨pr, 3, none⟩ = false := blk_free HN9.out 3
      obtain ⟨V, hV⟩ : ∃ V, V = (((W.setCell ⟨pr, 0, none⟩ (.int .i64 4)).setCell ⟨pr, 1, none⟩ (.string ⟨#[]⟩)).setCell ⟨pr, 2, none⟩ (.int .i64 0)).setCell ⟨pr, 3, none⟩ (.slice none 0 0) := ⟨_, rfl⟩
      have HV : Hid (V.heap[pr]? = some (.cells #[.int .i64 4, .string ⟨#[]⟩, .int .i64 0, .slice none 0 0] 50 (0, 0)) ∧ Kept Nil w V) := by
        rw [hV]
        exact ⟨blk_set (blk_set (blk_set (blk_set HN9.out 0 _) 1 _) 2 _) 3 _, (((KW.out.setNew (p := ⟨pr, 0, none⟩) HPW.out _).setNew (p := ⟨pr, 1, none⟩) HPW.out _).setNew (p := ⟨pr, 2, none⟩) HPW.out _).setNew (p := ⟨pr, 3, none⟩) HPW.out _⟩
      go_wp2
      rw [← hV]
      clear hV r0 r1 r2 r3
      have j0 := blk_at HV.out.1 0 rfl
      have j1 := blk_at HV.out.1 1 rfl
      have j2 := blk_at HV.out.1 2 rfl
      have j3 := blk_at HV.out.1 3 rfl
      exact bodyPost_ret (v := .tuple #[.slice (some a) ps.length c, rrV ⟨4, [], 0, []⟩ none 0]) (by simp [results, Tryz.results133, go_sem, j0, j1, j2, j3, rrV, bs]) rfl ⟨some a, c, none, 0, by rw [HE.out.1, HE.out.2], by rw [HE.out.1]; exact .inl ⟨rfl, rfl, rfl⟩, by rw [HE.out.2]; exact OwnK.nil _ _, HV.out.2⟩
    | false =>
      have hn0 : n = 0 := by
        by_cases e : n = 0
        · exact e
        · rw [s2.1 e] at ht; cases ht
      have hmx : ps.length = 32 := by
        unfold roomB at hrm
        simp [hn0, h64] at hrm
        exact hrm
      have hmb : ((ps.length : Int) == 32) = true := by rw [beq_iff_eq]; omega
      clear hmx hrm
      have hg : getP key ps = -1 := by unfold getP; rw [ht]; rfl
      rw [hg] at GET
      go_enter Tryz.func133, Tryz.ntmps133
      go_wp2_with fail
      rw [← hW]
      generalize w.heap.size = pr at *
      clear hW
      go_fit GET
      rintro _ W ⟨rfl, rfl⟩
      have r0 : W.cell? ⟨pr, 0, none⟩ = some (.int .i64 0) := blk_at HN9.out 0 rfl
      have r1 : W.cell? ⟨pr, 1, none⟩ = some (.string ⟨#[]⟩) := blk_at HN9.out 1 rfl
      have r2 : W.cell? ⟨pr, 2, none⟩ = some (.int .i64 0) := blk_at HN9.out 2 rfl
      have r3 : W.cell? ⟨pr, 3, none⟩ = some (.slice none 0 0) := blk_at HN9.out 3 rfl
      have z0 : W.frozen? ⟨pr, 0, none⟩ = false := blk_free HN9.out 0
      have z1 : W.frozen? ⟨pr, 1, none⟩ = false := blk_free HN9.out 1
      have z2 : W.frozen? ⟨pr, 2, none⟩ = false := blk_free HN9.out 2
      have z3 : W.frozen? ⟨pr, 3, none⟩ = false := blk_free HN9.out 3
      obtain ⟨V, hV⟩ : ∃ V, V = (((W.setCell ⟨pr, 0, none⟩ (.int .i64 4)).setCell ⟨pr, 1, none⟩ (.string ⟨#[]⟩)).setCell ⟨pr, 2, none⟩ (.int .i64 0)).setCell ⟨pr, 3, none⟩ (.slice none 0 0) := ⟨_, rfl⟩
      have HV : Hid (V.heap[pr]? = some (.cells #[.int .i64 4, .string ⟨#[]⟩, .int .i64 0, .slice none 0 0] 50 (0, 0)) ∧ Kept Nil w V) := by
        rw [hV]
        exact ⟨blk_set (blk_set (blk_set (blk_set HN9.out 0 _) 1 _) 2 _) 3 _, (((KW.out.setNew (p := ⟨pr, 0, none⟩) HPW.out _).setNew (p := ⟨pr, 1, none⟩) HPW.out _).setNew (p := ⟨pr, 2, none⟩) HPW.out _).setNew (p := ⟨pr, 3, none⟩) HPW.out _⟩
      go_wp2
      rw [← hV]
      clear hV r0 r1 r2 r3
      have j0 := blk_at HV.out.1 0 rfl
      have j1 := blk_at HV.out.1 1 rfl
      have j2 := blk_at HV.out.1 2 rfl
      have j3 := blk_at HV.out.1 3 rfl
      exact bodyPost_ret (v := .tuple #[.slice ao ps.length c, rrV ⟨4, [], 0, []⟩ none 0]) (by simp [results, Tryz.results133, go_sem, j0, j1, j2, j3, rrV, bs]) rfl ⟨ao, c, none, 0, by rw [HE.out.1, HE.out.2], by rw [HE.out.1]; exact .inl ⟨rfl, rfl, rfl⟩, by rw [HE.out.2]; exact OwnK.nil _ _, HV.out.2⟩
  · have h64i : ¬ (val.length : Int) ≤ 64 := by omega
    go_enter Tryz.func133, Tryz.ntmps133
    go_wp2_with fail
    rw [← hW]
    generalize w.heap.size = pr at *
    clear hW
    go_fit GET
    rintro _ W ⟨rfl, rfl⟩
    have r0 : W.cell? ⟨pr, 0, none⟩ = some (.int .i64 0) := blk_at HN9.out 0 rfl
    have r1 : W.cell? ⟨pr, 1, none⟩ = some (.string ⟨#[]⟩) := blk_at HN9.out 1 rfl
    have r2 : W.cell? ⟨pr, 2, none⟩ = some (.int .i64 0) := blk_at HN9.out 2 rfl
    have r3 : W.cell? ⟨pr, 3, none⟩ = some (.slice none 0 0) := blk_at HN9.out 3 rfl
    have z0 : W.frozen? ⟨pr, 0, none⟩ = false := blk_free HN9.out 0
    have z1 : W.frozen? ⟨pr, 1, none⟩ = false := blk_free HN9.out 1
    have z2 : W.frozen? ⟨pr, 2, none⟩ = false := blk_free HN9.out 2
    have z3 : W.frozen? ⟨pr, 3, none⟩ = false := blk_free HN9.out 3
    obtain ⟨V, hV⟩ : ∃ V, V = (((W.setCell ⟨pr, 0, none⟩ (.int .i64 4)).setCell ⟨pr, 1, none⟩ (.string ⟨#[]⟩)).setCell ⟨pr, 2, none⟩ (.int .i64 0)).setCell ⟨pr, 3, none⟩ (.slice none 0 0) := ⟨_, rfl⟩
    have HV : Hid (V.heap[pr]? = some (.cells #[.int .i64 4, .string ⟨#[]⟩, .int .i64 0, .slice none 0 0] 50 (0, 0)) ∧ Kept Nil w V) := by
      rw [hV]
      exact ⟨blk_set (blk_set (blk_set (blk_set HN9.out 0 _) 1 _) 2 _) 3 _, (((KW.out.setNew (p := ⟨pr, 0, none⟩) HPW.out _).setNew (p := ⟨pr, 1, none⟩) HPW.out _).setNew (p := ⟨pr, 2, none⟩) HPW.out _).setNew (p := ⟨pr, 3, none⟩) HPW.out _⟩
    go_wp2
    rw [← hV]
    clear hV r0 r1 r2 r3
    have j0 := blk_at HV.out.1 0 rfl
    have j1 := blk_at HV.out.1 1 rfl
    have j2 := blk_at HV.out.1 2 rfl
    have j3 := blk_at HV.out.1 3 rfl
    exact bodyPost_ret (v := .tuple #[.slice ao ps.length c, rrV ⟨4, [], 0, []⟩ none 0]) (by simp [results, Tryz.results133, go_sem, j0, j1, j2, j3, rrV, bs]) rfl ⟨ao, c, none, 0, by rw [HE.out.1, HE.out.2], by rw [HE.out.1]; exact .inl ⟨rfl, rfl, rfl⟩, by rw [HE.out.2]; exact OwnK.nil _ _, HV.out.2⟩

end Go.Proofs.YtflnjlbafchnaaaGreatDoor
