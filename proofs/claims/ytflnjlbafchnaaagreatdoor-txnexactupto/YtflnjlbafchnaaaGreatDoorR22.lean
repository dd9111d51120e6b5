/-
  Joined: WTz9.
-/
import Derived.Test.YtflnjlbafchnaaaGreatDoorR21
import Derived.BigQuiet
import Derived.BigRegion
import Derived.Deep.RegionLaw
import Derived.Deep.DeepCutAuto
/-
  TxnExact: the document's NewTxn.
-/
namespace Go.Proofs.YtflnjlbafchnaaaGreatDoor
open Go.RowKit

def RT (qs : List Pt) : Prop := qs.Pairwise fun a b => lessB a.k b.k = true
theorem RT.rise {qs : List Pt} (h : RT qs) : RiseT qs := fun i j hi hj => List.pairwise_iff_getElem.1 h i j (by omega) hj hi
def insT (k : Nat) (p : Pt) (qs : List Pt) : List Pt := qs.take k ++ p :: qs.drop k
theorem insT_perm (k : Nat) (p : Pt) (qs : List Pt) : (insT k p qs).Perm (p :: qs) := by
  unfold insT
  have h := List.perm_middle (a := p) (l₁ := qs.take k) (l₂ := qs.drop k)
  rwa [List.take_append_drop] at h
theorem insT_len (k : Nat) (p : Pt) (qs : List Pt) : (insT k p qs).length = qs.length + 1 := by
  rw [(insT_perm k p qs).length_eq]; rfl
theorem RT.ins {k : Nat} {p : Pt} {qs : List Pt} (h : RT qs) (hk : k ≤ qs.length) (h1 : ∀ j, (hj : j < qs.length) → j < k → lessB qs[j].k p.k = true) (h2 : (hj : k < qs.length) → lessB p.k qs[k].k = true) : RT (insT k p qs) := by
  unfold RT insT
  unfold RT at h
  have hs := h
  rw [← List.take_append_drop k qs] at hs
  obtain ⟨a1, a2, a3⟩ := List.pairwise_append.1 hs
  refine List.pairwise_append.2 ⟨a1, List.pairwise_cons.2 ⟨fun b hb => ?_, a2⟩, fun a ha b hb => ?_⟩
  · obtain ⟨j, hj, rfl⟩ := List.mem_iff_getElem.1 hb
    rw [List.length_drop] at hj
    have hk2 : k < qs.length := by omega
    rw [List.getElem_drop]
    by_cases e : j = 0
    · subst e
      exact h2 hk2
    · exact less_trans (h2 hk2) (List.pairwise_iff_getElem.1 h k (k + j) hk2 (by omega) (by omega))
  · rcases List.mem_cons.1 hb with rfl | hb
    · obtain ⟨j, hj, rfl⟩ := List.mem_iff_getElem.1 ha
      rw [List.length_take] at hj
      rw [List.getElem_take]
      exact h1 j (by omega) (by omega)
    · exact a3 a ha b hb
theorem not_good_dup {id : Int} {ps qs : List Pt} {i k : Nat} (hi : i < ps.length) (hp : qs.Perm (ps.take i)) (hk : k < qs.length) (h : qs[k].k = ps[i].k) : ¬ NewGood id ps := fun g => by
  have hm : qs[k] ∈ ps.take i := hp.mem_iff.1 (List.getElem_mem hk)
  obtain ⟨j, hj, e⟩ := List.mem_iff_getElem.1 hm
  rw [List.length_take] at hj
  rw [List.getElem_take] at e
  have := List.pairwise_iff_getElem.1 g.keys j i (by rw [List.length_map]; omega) (by rw [List.length_map]; omega) (by omega)
  rw [List.getElem_map, List.getElem_map] at this
  exact this (by rw [e]; exact h)
theorem perm_next {ps qs : List Pt} {i : Nat} (hi : i < ps.length) (hp : qs.Perm (ps.take i)) (k : Nat) : (insT k ps[i] qs).Perm (ps.take (i + 1)) := by
  rw [List.take_succ_eq_append_getElem hi]
  exact (insT_perm k _ qs).trans ((hp.cons _).trans (List.perm_append_comm (l₁ := [ps[i]]) (l₂ := ps.take i)))
theorem good_end {id : Int} {ps qs : List Pt} (h0 : 1 ≤ id) (h1 : id ≤ 999) (h2 : 1 ≤ ps.length) (h3 : ps.length ≤ 4) (hp : qs.Perm ps) (hr : RT qs) (hok : ∀ p ∈ ps, ptOk p = true) : NewGood id ps :=
  ⟨h0, h1, h2, h3, hok, (hp.map Pt.k).nodup_iff.1 (rise_nodup hr.rise)⟩
def DNewPost (w : World) (id : Int) (ps : List Pt) (e : Ending) (w' : World) : Prop :=
  (¬ NewGood id ps ∧ e = .returned (.tuple #[.pointer none, .int .i64 22]) ∧ Kept Nil w w') ∨
  (NewGood id ps ∧ ∃ qs b ap cp, qs.Perm ps ∧ RiseT qs ∧ e = .returned (.tuple #[.pointer (some ⟨b, 0, none⟩), .int .i64 0]) ∧ TdAt w' b (newTx id.toNat qs) ⟨Hd.no, 0, false⟩ ap none cp 0 ∧ OwnT w.heap.size w' ap cp qs ∧ w.heap.size ≤ b ∧ Kept Nil w w')
/-- What is so behind some of the parts. -/
structure NtI (w wr : World) (id : Int) (ps qs : List Pt) (i : Nat) (ao : Option Addr) (c : Nat) : Prop where
  own : OwnT w.heap.size wr ao c qs
  perm : qs.Perm (ps.take i)
  rt : RT qs
  ok : ∀ p ∈ ps.take i, ptOk p = true
  nil : qs = [] → ao = none ∧ c = 0
  kp : Kept Nil w wr
theorem NtI.len {w wr : World} {id : Int} {ps qs : List Pt} {i : Nat} {ao : Option Addr} {c : Nat} (h : NtI w wr id ps qs i ao c) (hi : i ≤ ps.length) : qs.length = i := by
  rw [h.perm.length_eq, List.length_take]; omega
theorem NtI.some {w wr : World} {id : Int} {ps qs : List Pt} {i : Nat} {ao : Option Addr} {c : Nat} (h : NtI w wr id ps qs i ao c) (h0 : 0 < qs.length) : ∃ g, ao = some ⟨g, 0, none⟩ ∧ qs.length ≤ c := by
  rcases h.own.2 with ⟨hv, hx⟩ | ⟨g, cap, cur, hv, hb, hh, h1, _⟩
  · simp at hv
    omega
  · simp only [Value.slice.injEq] at hv
    exact ⟨g, hv.1, by omega⟩
theorem own_ltZ {w : World} {B size n : Nat} {e : TypeId} {v : Value} {xs : List Value} (h : w.ownsRow B e size v n xs) {g : Nat} (hg : v.ownBlock = some g) : g < w.heap.size := by
  rcases h.2 with ⟨hv, _⟩ | ⟨g', cap, cur, hv, hb, hh, _⟩
  · rw [hv] at hg; simp [Value.ownBlock] at hg
  · rw [hv] at hg
    simp [Value.ownBlock] at hg
    rw [← hg]
    exact lt_of_block hh
theorem own_farZ {w w' : World} {B size n : Nat} {e : TypeId} {v : Value} {xs : List Value} {ob : Option Nat} (h : w.ownsRow B e size v n xs) (hg : w.grownBy w' ob) (hne : ∀ q, v.ownBlock = some q → ob ≠ some q) : w'.ownsRow B e size v n xs := by
  refine ⟨h.1, h.2.imp id ?_⟩
  rintro ⟨g, cap, cur, rfl, a2, a3, a4⟩
  refine ⟨g, cap, cur, rfl, a2, ?_, a4⟩
  rw [hg.block g (lt_of_block a3) (fun e => hne g rfl e.symm)]
  exact a3
theorem src_partZ {w : World} {g : Nat} {p : Pt} (h : w.heap[g]? = some (.cells #[.string (bs p.k), .int .i64 p.a] 29 (0, 0))) : Src Tryz.prog 2 22 (.slice (some ⟨g, 0, none⟩) 1 1) 1 (ptCells [p]) w := by
  have h1 : OwnT 0 w (some ⟨g, 0, none⟩) 1 [p] := ⟨rfl, .inr ⟨g, 1, _, rfl, Nat.zero_le _, h, Nat.le_refl _, by unfold maxLen; omega, rfl, rfl⟩⟩
  exact h1.row.src
theorem src_rowZ {w : World} {B m c : Nat} {ao : Option Addr} {ps : List Pt} (h : w.ownsRow B 29 2 (.slice ao m c) m (ptCells ps)) (hl : ps.length = m) : Src Tryz.prog 2 22 (.slice ao m c) m (ptCells ps) w := by
  subst hl
  have h1 : OwnT B w ao c ps := h
  exact h1.row.src
theorem src_nilZ {w : World} : Src Tryz.prog 2 22 (.slice none 0 0) 0 (ptCells []) w := by
  have h1 : OwnT 0 w none 0 [] := World.ownsRow_nil _ _ _ _
  exact h1.row.src (c := 0)
set_option maxRecDepth 100000 in
set_option maxHeartbeats 16000000 in
theorem dnew_any (w : World) (c0 : Nat) (ao0 : Option Addr) (id : Int) (ps : List Pt) (hP : PtRow w.heap.size w ao0 ps) (hkl : ∀ p ∈ ps, p.k.length ≤ maxLen) (hlen : (ps.length : Int) ≤ 9223372036854775807) :
    Calls Tryz.prog 12 #[.int .i64 id, .slice ao0 ps.length c0] w (DNewPost w id ps) := by
  have HP : Hid (PtRow w.heap.size w ao0 ps) := hP
  have HKL : Hid (∀ p ∈ ps, p.k.length ≤ maxLen) := hkl
  obtain ⟨n, Hn⟩ : ∃ n, Hid (n = ps.length) := ⟨_, rfl⟩
  rw [← Hn.out] at hlen ⊢
  clear hP hkl
  by_cases hc : id < 1 ∨ 999 < id ∨ n < 1 ∨ 4 < n
  · have NG : Hid (¬ NewGood id ps) := fun g => by
      have h1 := g.id0; have h2 := g.id; have h3 := g.len; have h4 := g.len4
      rw [← Hn.out] at h3 h4
      omega
    have KF : Hid (Kept Nil w w) := Kept.refl _ _
    have hd : id < 1 ∨ (¬ id < 1 ∧ 999 < id) ∨ (¬ id < 1 ∧ ¬ 999 < id ∧ (n : Int) < 1) ∨ (¬ id < 1 ∧ ¬ 999 < id ∧ ¬ (n : Int) < 1 ∧ (4 : Int) < n) := by omega
    clear hc
    rcases hd with d1 | ⟨d1, d2⟩ | ⟨d1, d2, d3⟩ | ⟨d1, d2, d3, d4⟩
    all_goals
      go_enter Tryz.func12, Tryz.ntmps12
      go_wp2
      exact bodyPost_ret (v := .tuple #[.pointer none, .int .i64 22]) (by simp [results, Tryz.results12, go_sem]) rfl (.inl ⟨NG.out, rfl, KF.out⟩)
  · have d1 : ¬ id < 1 := by omega
    have d2 : ¬ 999 < id := by omega
    have d3 : ¬ (n : Int) < 1 := by omega
    have d4 : ¬ (4 : Int) < n := by omega
    have HC : Hid (1 ≤ id ∧ id ≤ 999 ∧ 1 ≤ ps.length ∧ ps.length ≤ 4) := ⟨by omega, by omega, by rw [← Hn.out]; omega, by rw [← Hn.out]; omega⟩
    clear hc
    go_enter Tryz.func12, Tryz.ntmps12
    go_wp2_with fail
    go_loopw [4, 5, 6, 7] (fun _ _ l u wr => ∃ (i c : Nat) (ao : Option Addr) (qs : List Pt), i ≤ n ∧ l = .slice ao i c ∧ u = .int .i64 i ∧ Hid (NtI w wr id ps qs i ao c)) (fun _ _ _ u _ => n - (intOf u).toNat)
    case atStart => exact ⟨0, 0, none, [], Nat.zero_le _, rfl, rfl, ⟨World.ownsRow_nil _ _ _ _, by simp, List.Pairwise.nil, fun p hp => by simp at hp, fun _ => ⟨rfl, rfl⟩, Kept.refl _ _⟩⟩
    case round =>
      obtain ⟨i, c, ao, qs, hin, rfl, rfl, HI⟩ := hrel
      obtain ⟨wo, hwo⟩ : ∃ x : World, x = wr := ⟨_, rfl⟩
      rw [← hwo] at HI ⊢
      clear hwo
      by_cases hlt : i < n
      · have hli : (i : Int) < n := by omega
        have hld : decide ((i : Int) < (n : Int)) = true := decide_eq_true hli
        have hil : i < ps.length := by rw [← Hn.out]; exact hlt
        have HQL : Hid (qs.length = i) := HI.out.len (by omega)
        obtain ⟨a, ha, _, c1, c2⟩ := (HP.out.keptX HI.out.kp (fun _ _ _ x => x)) i hil
        subst ha
        obtain ⟨p, Hp⟩ : ∃ p : Pt, Hid (p = ps[i]) := ⟨ps[i], (rfl : ps[i] = ps[i])⟩
        rw [← Hp.out] at c1 c2
        have HPM : Hid (p.k.length ≤ maxLen) := HKL.out p (by rw [Hp.out]; exact List.getElem_mem hil)
        obtain ⟨W, hW⟩ : ∃ Y, Y = wo.alloc (.cells #[.string (bs p.k), .int .i64 p.a] 29) := ⟨_, rfl⟩
        obtain ⟨P, HPe⟩ : ∃ A, Hid (A = wo.heap.size) := ⟨_, rfl⟩
        have HPB : Hid (W.heap[P]? = some (.cells #[.string (bs p.k), .int .i64 p.a] 29 (0, 0))) := by rw [hW, HPe.out]; exact blk_new _ _
        have KW : Hid (Kept Nil wo W) := by rw [hW]; exact (Kept.refl _ _).alloc _
        go_upto_region 8 with fail
        rw [← hW]
        have HIW : Hid (NtI w W id ps qs i ao c) := by
          obtain ⟨h1, h2, h3, h4, h5, h6⟩ := HI.out
          exact ⟨h1.keptX KW.out (fun _ _ _ x => x), h2, h3, h4, h5, h6.trans KW.out⟩
        rw [← HPe.out]
        clear hW c1 c2
        have b0 : W.cell? ⟨P, 0, none⟩ = some (.string (bs p.k)) := blk_at HPB.out 0 rfl
        have b1 : W.cell? ⟨P, 1, none⟩ = some (.int .i64 p.a) := blk_at HPB.out 1 rfl
        have KF : Hid (Kept Nil w W) := HIW.out.kp
        by_cases hbad : ptOk p = false
        · have NG : Hid (¬ NewGood id ps) := fun g => by
            have := g.ok p (by rw [Hp.out]; exact List.getElem_mem hil)
            rw [hbad] at this
            cases this
          have hx : ((bs p.k).toList == []) = true ∨ (((bs p.k).toList == []) = false ∧ (15 : Int) < (bs p.k).size) ∨ (((bs p.k).toList == []) = false ∧ ¬ (15 : Int) < (bs p.k).size ∧ p.a < -999999999) ∨ (((bs p.k).toList == []) = false ∧ ¬ (15 : Int) < (bs p.k).size ∧ ¬ p.a < -999999999 ∧ 999999999 < p.a) := by
            rw [bs_toList, bs_size]
            have he : (p.k == []) = decide (p.k.length = 0) := by cases p.k <;> rfl
            rw [he]
            have hb2 : ¬ (1 ≤ p.k.length ∧ p.k.length < 16 ∧ -999999999 ≤ p.a ∧ p.a ≤ 999999999) := fun g => by
              have : ptOk p = true := by unfold ptOk; rw [decide_eq_true g.1, decide_eq_true g.2.1, decide_eq_true g.2.2.1, decide_eq_true g.2.2.2]; rfl
              rw [hbad] at this
              cases this
            simp only [decide_eq_true_eq, decide_eq_false_iff_not]
            omega
          clear hbad
          rcases hx with x1 | ⟨x1, x2⟩ | ⟨x1, x2, x3⟩ | ⟨x1, x2, x3, x4⟩
          all_goals
            go_wp2
            exact bodyPost_ret (v := .tuple #[.pointer none, .int .i64 22]) (by simp [results, Tryz.results12, go_sem]) rfl (.inl ⟨NG.out, rfl, KF.out⟩)
        · have hok : ptOk p = true := by cases e : ptOk p; exact absurd e hbad; rfl
          obtain ⟨o1, o2, o3, o4⟩ := ptOk_iff hok
          have HOK : Hid (ptOk p = true ∧ p.k.length ≤ 15) := ⟨hok, o2⟩
          have x1 : ((bs p.k).toList == []) = false := by
            rw [bs_toList]
            cases e : p.k with
            | nil => rw [e] at o1; simp at o1
            | cons u v => rfl
          have x2 : ¬ (15 : Int) < (bs p.k).size := by rw [bs_size]; omega
          have x3 : ¬ p.a < -999999999 := by omega
          have x4 : ¬ 999999999 < p.a := by omega
          clear hbad hok o1 o2 o3 o4
          go_upto_block 2 with fail
          clear x1 x2 x3 x4 b1
          have hk0 : ∀ j, (hj : j < qs.length) → j < 0 → lessB qs[j].k p.k = true := fun j _ hx => absurd hx (by omega)
          go_cut [9] from 56 to 71 (fun v wc => ∃ k : Nat, v = .int .i64 k ∧ k ≤ i ∧ Hid (Kept Nil W wc ∧ (∀ j, (hj : j < qs.length) → j < k → lessB qs[j].k p.k = true) ∧ ((hj : k < qs.length) → lessB qs[k].k p.k = false)))
          case first =>
            go_wp2_with fail
            go_loopw [9] (fun u wr => ∃ k : Nat, k ≤ i ∧ u = .int .i64 k ∧ Hid (Kept Nil W wr) ∧ Hid (∀ j, (hj : j < qs.length) → j < k → lessB qs[j].k p.k = true)) (fun u _ => i - (intOf u).toNat)
            case atStart => exact ⟨0, Nat.zero_le _, rfl, Kept.refl _ _, hk0⟩
            case round =>
              obtain ⟨k, hki, rfl, HKr, HLo⟩ := hrel
              obtain ⟨wo2, hwo2⟩ : ∃ x : World, x = wr := ⟨_, rfl⟩
              rw [← hwo2] at HKr ⊢
              clear hwo2 b0 hk0
              by_cases hk : k < i
              · have hk1 : (k : Int) < i := by omega
                have hk2 : decide ((k : Int) < (i : Int)) = true := decide_eq_true hk1
                have hkq : k < qs.length := by rw [HQL.out]; exact hk
                obtain ⟨a, ha, _, e0, _⟩ := (HIW.out.own.keptX HKr.out (fun _ _ _ x => x)).row k hkq
                subst ha
                obtain ⟨y, Hy⟩ : ∃ y : List UInt8, Hid (y = qs[k].k) := ⟨qs[k].k, (rfl : qs[k].k = qs[k].k)⟩
                rw [← Hy.out] at e0
                have p0 : wo2.cell? ⟨P, 0, none⟩ = some (.string (bs p.k)) := blk_at (HKr.out.block _ _ HPB.out (fun x => x)) 0 rfl
                cases hls : Op.bytesLess y p.k with
                | true =>
                  have hls2 : Op.bytesLess (bs y).toList (bs p.k).toList = true := by rw [bs_toList, bs_toList]; exact hls
                  have HL2 : Hid (∀ j, (hj : j < qs.length) → j < k + 1 → lessB qs[j].k p.k = true) := fun j hj hx => by
                    by_cases e : j = k
                    · subst e
                      rw [← Hy.out]
                      exact hls
                    · exact HLo.out j hj (by omega)
                  go_upto_region 11 with fail
                  go_quiet (fail)
                  go_wp2
                  go_roundw
                  case rel => exact ⟨k + 1, by omega, by go_num, HKr.out.drewN _, HL2.out⟩
                  case measure => simp [intOf]; omega
                | false =>
                  have hls2 : Op.bytesLess (bs y).toList (bs p.k).toList = false := by rw [bs_toList, bs_toList]; exact hls
                  have HF : ∀ m, Hid (Kept Nil W (wo2.drewN m) ∧ (∀ j, (hj : j < qs.length) → j < k → lessB qs[j].k p.k = true) ∧ ((hj : k < qs.length) → lessB qs[k].k p.k = false)) := fun m => ⟨HKr.out.drewN m, HLo.out, fun _ => by rw [← Hy.out]; exact hls⟩
                  go_upto_region 11 with fail
                  go_quiet (fail)
                  go_wp2
                  go_meet
                  exact ⟨k, rfl, hki, HF _⟩
              · obtain rfl : k = i := by omega
                have hk2 : decide ((k : Int) < (k : Int)) = false := decide_eq_false (by omega)
                have hk3 : ¬ (k : Int) < (k : Int) := by omega
                have HF : ∀ m, Hid (Kept Nil W (wo2.drewN m) ∧ (∀ j, (hj : j < qs.length) → j < k → lessB qs[j].k p.k = true) ∧ ((hj : k < qs.length) → lessB qs[k].k p.k = false)) := fun m => ⟨HKr.out.drewN m, HLo.out, fun hj => absurd hj (by rw [HQL.out] <;> omega)⟩
                go_upto_region 11 with fail
                go_quiet (fail)
                go_wp2
                go_meet
                exact ⟨k, rfl, hki, HF _⟩
          case rest =>
            obtain ⟨k, rfl, hki, hh⟩ := hcut
            rename World => w9
            have HK9 : Hid (Kept Nil W w9) := hh.out.1
            have HLo : Hid ((∀ j, (hj : j < qs.length) → j < k → lessB qs[j].k p.k = true) ∧ ((hj : k < qs.length) → lessB qs[k].k p.k = false)) := hh.out.2
            clear hh b0 hk0
            have HI9 : Hid (NtI w w9 id ps qs i ao c) := by
              obtain ⟨h1, h2, h3, h4, h5, h6⟩ := HIW.out
              exact ⟨h1.keptX HK9.out (fun _ _ _ x => x), h2, h3, h4, h5, h6.trans HK9.out⟩
            have HP9 : Hid (w9.heap[P]? = some (.cells #[.string (bs p.k), .int .i64 p.a] 29 (0, 0))) := HK9.out.block _ _ HPB.out (fun x => x)
            have p0 : w9.cell? ⟨P, 0, none⟩ = some (.string (bs p.k)) := blk_at HP9.out 0 rfl
            apply_assumption
            by_cases hdup : ∃ hj : k < qs.length, qs[k].k = p.k
            · obtain ⟨hj, hd⟩ := hdup
              have NG : Hid (¬ NewGood id ps) := not_good_dup hil HI9.out.perm hj (by rw [hd, Hp.out])
              have hk1 : (k : Int) < i := by rw [HQL.out] at hj; omega
              have hk2 : decide ((k : Int) < (i : Int)) = true := decide_eq_true hk1
              obtain ⟨a, ha, _, e0, _⟩ := HI9.out.own.row k hj
              subst ha
              rw [hd] at e0
              have KF : ∀ m, Hid (Kept Nil w (w9.drewN m)) := fun m => HI9.out.kp.drewN m
              clear hd
              go_upto_region 13 with fail
              go_quiet (fail)
              go_wp2
              exact bodyPost_ret (v := .tuple #[.pointer none, .int .i64 22]) (by simp [results, Tryz.results12, go_sem]) rfl (.inl ⟨NG.out, rfl, (KF _).out⟩)
            · have HRT : Hid (RT (insT k p qs) ∧ (insT k p qs).Perm (ps.take (i + 1))) := by
                refine ⟨HI9.out.rt.ins (by rw [HQL.out]; exact hki) HLo.out.1 (fun hj => less_total (HLo.out.2 hj) (fun e => hdup ⟨hj, e⟩)), ?_⟩
                have := perm_next hil HI9.out.perm k
                rw [← Hp.out] at this
                exact this
              go_upto_if 85 with fail
              go_cut [85] from 72 to 85 (fun v wc => v = .bool false ∧ Hid (Kept Nil w9 wc))
              case first =>
                have HF : ∀ m, Hid (Kept Nil w9 (w9.drewN m)) := fun m => (Kept.refl _ _).drewN m
                by_cases hk : k < i
                · have hk1 : (k : Int) < i := by omega
                  have hk2 : decide ((k : Int) < (i : Int)) = true := decide_eq_true hk1
                  have hkq : k < qs.length := by rw [HQL.out]; exact hk
                  obtain ⟨a, ha, _, e0, _⟩ := HI9.out.own.row k hkq
                  subst ha
                  obtain ⟨y, Hy⟩ : ∃ y : List UInt8, Hid (y = qs[k].k) := ⟨qs[k].k, (rfl : qs[k].k = qs[k].k)⟩
                  rw [← Hy.out] at e0
                  have hne : ((bs y).toList == (bs p.k).toList) = false := by
                    rw [bs_toList, bs_toList]
                    have : y ≠ p.k := fun e => hdup ⟨hkq, by rw [← Hy.out]; exact e⟩
                    simpa using this
                  clear hdup
                  go_upto_region 13 with fail
                  go_quiet (fail)
                  go_wp2
                  go_meet
                  exact ⟨rfl, HF _⟩
                · obtain rfl : k = i := by omega
                  have hk2 : decide ((k : Int) < (k : Int)) = false := decide_eq_false (by omega)
                  have hk3 : ¬ (k : Int) < (k : Int) := by omega
                  clear hdup
                  go_upto_region 13 with fail
                  go_quiet (fail)
                  go_wp2
                  go_meet
                  exact ⟨rfl, HF _⟩
              case rest =>
                obtain ⟨rfl, hcx⟩ := hcut
                rename World => x9
                have HX9 : Hid (Kept Nil w9 x9) := hcx
                clear hcx hdup HI p0
                have HIX : Hid (NtI w x9 id ps qs i ao c) := by
                  obtain ⟨h1, h2, h3, h4, h5, h6⟩ := HI9.out
                  exact ⟨h1.keptX HX9.out (fun _ _ _ x => x), h2, h3, h4, h5, h6.trans HX9.out⟩
                have HPX : Hid (x9.heap[P]? = some (.cells #[.string (bs p.k), .int .i64 p.a] 29 (0, 0))) := HX9.out.block _ _ HP9.out (fun x => x)
                have hk0 : (0 : Int) ≤ k := by omega
                have hki2 : (k : Int) ≤ i := by omega
                apply_assumption
                by_cases hi0 : i = 0
                · subst hi0
                  obtain rfl : k = 0 := by omega
                  have hq0 : qs = [] := List.length_eq_zero_iff.1 HQL.out
                  obtain ⟨e1, e2⟩ := HIX.out.nil hq0
                  subst e1 e2
                  clear hq0
                  obtain ⟨ip, hip, hz0, hz1, hz2⟩ := info_parts Tryz.infoPt
                  have HM : Hid (0 ≤ 4 ∧ 0 ≤ 4 ∧ 0 + 1 ≤ 4) := by have := HC.out.2.2.2; have := Hn.out; exact ⟨by omega, by omega, by omega⟩
                  have HMX : Hid (0 + 0 ≤ maxLen ∧ (0 + 0) * 24 ≤ 140737488355328) := by have := HM.out.1; constructor <;> (try unfold maxLen) <;> omega
                  have HNR : Hid (x9.ownsRow x9.heap.size 29 2 (.slice none 0 0) 0 []) := World.ownsRow_nil _ _ _ _
                  have HDS : Hid (Src Tryz.prog 2 22 (.slice none 0 0) (0) (ptCells (qs.drop (0))) x9) := by have h : qs.drop 0 = [] := (by have := HQL.out; exact List.length_eq_zero_iff.1 (by rw [List.length_drop] <;> omega)); rw [h]; exact src_nilZ
                  go_upto_region 16 with (at_builtin; go_must (refine wpList_append_src _ rfl _ _ 22 22 rfl x9.heap.size 29 ip (.agg #[.string ⟨#[]⟩, .int .i64 0]) 2 24 Tryz.underlying22 hip hz0 hz1 hz2 rfl (.slice none 0 0) 0 [] rfl HNR.out (.slice none 0 0) (0) (ptCells (qs.drop (0))) rfl HDS.out HMX.out.1 HMX.out.2 (Nat.le_refl _) ?_); intro a6 c6 w6 ho6 hg6; have HO6 : Hid (w6.ownsRow x9.heap.size 29 2 (.slice a6 (0) c6) (0) (ptCells (qs.drop (0)))) := (by show w6.ownsRow _ _ _ _ _ _; simpa using ho6); have KG6 : Hid (Kept Nil x9 w6) := (Kept.refl _ _).grown hg6 (fun g e => by simp [Value.ownBlock] at e); clear ho6 hg6)
                  have HL6 : Hid (w6.ownsRow w.heap.size 29 2 (.slice none 0 0) (0) (ptCells (qs.take (0)))) := own_kept (HIX.out.own.takeT (0) (by rw [HQL.out] <;> omega)) KG6.out (fun _ _ _ x => x)
                  have HNE : Hid (∀ q, (Value.slice a6 (0) c6).ownBlock = some q → (.slice none 0 0 : Value).ownBlock ≠ some q) := fun q h1 h2 => by
                    have h3 := own_ge HO6.out h1
                    have h4 := own_ltZ (HIX.out.own.takeT (0) (by rw [HQL.out] <;> omega)) h2
                    omega
                  have KW6 : Hid (Kept Nil w w6) := HIX.out.kp.trans KG6.out
                  have p0 : w6.cell? ⟨P, 0, none⟩ = some (.string (bs p.k)) := blk_at (KG6.out.block _ _ HPX.out (fun x => x)) 0 rfl
                  have p1 : w6.cell? ⟨P, 1, none⟩ = some (.int .i64 p.a) := blk_at (KG6.out.block _ _ HPX.out (fun x => x)) 1 rfl
                  have hP6 : P < w6.heap.size := lt_of_block (KG6.out.block _ _ HPX.out (fun x => x))
                  have HBZ : Hid (0 + 1 ≤ maxLen ∧ (0 + 1) * 24 ≤ 140737488355328 ∧ 0 + 1 + (0) ≤ maxLen ∧ (0 + 1 + (0)) * 24 ≤ 140737488355328) := by have := HM.out; refine ⟨?_, ?_, ?_, ?_⟩ <;> (try unfold maxLen) <;> omega
                  have HWS : Hid (w.heap.size ≤ w6.heap.size) := KW6.out.size
                  have OL : ∀ Y, Kept Nil w6 Y → Y.ownsRow w.heap.size 29 2 (.slice none 0 0) (0) (ptCells (qs.take (0))) := fun Y kY => own_kept HL6.out kY (fun _ _ _ x => x)
                  have OR : ∀ Y, Kept Nil w6 Y → Y.ownsRow x9.heap.size 29 2 (.slice a6 (0) c6) (0) (ptCells (qs.drop (0))) := fun Y kY => own_kept HO6.out kY (fun _ _ _ x => x)
                  clear HNR HDS
                  go_region_law (first
                    | (refine step_append_src _ rfl (.tmp 92) (.tmp 94) 22 22 rfl w.heap.size 29 ip (.agg #[.string ⟨#[]⟩, .int .i64 0]) 2 24 Tryz.underlying22 hip hz0 hz1 hz2 rfl (.slice none 0 0) (0) (ptCells (qs.take (0))) (by simp [Act.eval]) (OL _ (by repeat (first | exact Kept.refl _ _ | refine Kept.drew ?_ | refine Kept.alloc ?_ _))) (.slice (some ⟨w6.heap.size, 0, none⟩) 1 1) 1 (ptCells [p]) (by simp [Act.eval]) (src_partZ (by first | exact blk_new w6 _ | exact blk_new w6.drew _)) HBZ.out.1 HBZ.out.2.1 (Nat.le_trans HWS.out (Kept.size (w := w6) (X := Nil) (by repeat (first | exact Kept.refl _ _ | refine Kept.drew ?_ | refine Kept.alloc ?_ _)))) ?_; intro a7 c7 w7 ho7 hg7; have HO7 : Hid (w7.ownsRow w.heap.size 29 2 (.slice a7 (0 + 1) c7) (0 + 1) (ptCells (qs.take (0)) ++ ptCells [p])) := ho7; have HR7 : Hid (w7.ownsRow x9.heap.size 29 2 (.slice a6 (0) c6) (0) (ptCells (qs.drop (0)))) := own_farZ (OR _ (by repeat (first | exact Kept.refl _ _ | refine Kept.drew ?_ | refine Kept.alloc ?_ _))) hg7 HNE.out; have KG7 : Hid (Kept Nil w w7) := (Kept.trans KW6.out (by repeat (first | exact Kept.refl _ _ | refine Kept.drew ?_ | refine Kept.alloc ?_ _))).grown hg7 (fun q e => own_ge HL6.out e); clear ho7 hg7)
                    | (refine step_append_src _ rfl (.tmp 95) (.tmp 96) 22 22 rfl w.heap.size 29 ip (.agg #[.string ⟨#[]⟩, .int .i64 0]) 2 24 Tryz.underlying22 hip hz0 hz1 hz2 rfl (.slice a7 (0 + 1) c7) (0 + 1) (ptCells (qs.take (0)) ++ ptCells [p]) (by simp [Act.eval]) HO7.out (.slice a6 (0) c6) (0) (ptCells (qs.drop (0))) (by simp [Act.eval]) (src_rowZ HR7.out (by rw [List.length_drop, HQL.out] <;> omega)) HBZ.out.2.2.1 HBZ.out.2.2.2 KG7.out.size ?_; intro a8 c8 w8 ho8 hg8; have HO8 : Hid (w8.ownsRow w.heap.size 29 2 (.slice a8 (0 + 1 + (0)) c8) (0 + 1 + (0)) (ptCells (qs.take (0)) ++ ptCells [p] ++ ptCells (qs.drop (0)))) := ho8; have KG8 : Hid (Kept Nil w w8) := KG7.out.grown hg8 (fun q e => own_ge HO7.out e); clear ho8 hg8))
                  all_goals
                    have HNI : Hid (NtI w w8 id ps (insT (0) p qs) (0 + 1) a8 c8) := by
                      refine ⟨?_, HRT.out.2, HRT.out.1, fun x hx => ?_, fun e => ?_, KG8.out⟩
                      · have hl : (insT (0) p qs).length = 0 + 1 + (0) := by rw [insT_len, HQL.out] <;> omega
                        unfold OwnT
                        rw [hl]
                        have h := HO8.out
                        rw [← ptCells_app, ← ptCells_app, List.append_assoc] at h
                        exact h
                      · rw [List.take_succ_eq_append_getElem hil, ← Hp.out] at hx
                        rcases List.mem_append.1 hx with hx | hx
                        · exact HIX.out.ok x hx
                        · rw [List.mem_singleton] at hx
                          rw [hx]
                          exact HOK.out.1
                      · have := congrArg List.length e
                        rw [insT_len] at this
                        simp at this
                    go_wp2
                    go_roundw
                    case rel => exact ⟨0 + 1, c8, a8, insT (0) p qs, by omega, by (try rw [show 0 + 1 = 0 + 1 + (0) by omega]), by go_num, HNI.out⟩
                    case measure => simp [intOf]; omega
                · obtain ⟨g, hg, hcl⟩ := HIX.out.some (by rw [HQL.out] <;> omega)
                  subst hg
                  have hic : i ≤ c := by rw [← HQL.out]; exact hcl
                  have hkc : k ≤ c := by omega
                  by_cases hkc2 : k = c
                  · obtain rfl : i = k := by omega
                    subst hkc2
                    obtain ⟨ip, hip, hz0, hz1, hz2⟩ := info_parts Tryz.infoPt
                    have HM : Hid (0 ≤ 4 ∧ i ≤ 4 ∧ i + 1 ≤ 4) := by have := HC.out.2.2.2; have := Hn.out; exact ⟨by omega, by omega, by omega⟩
                    have HMX : Hid (0 + 0 ≤ maxLen ∧ (0 + 0) * 24 ≤ 140737488355328) := by have := HM.out.1; constructor <;> (try unfold maxLen) <;> omega
                    have HNR : Hid (x9.ownsRow x9.heap.size 29 2 (.slice none 0 0) 0 []) := World.ownsRow_nil _ _ _ _
                    have HDS : Hid (Src Tryz.prog 2 22 (.slice (some ⟨g, 0, none⟩) 0 0) (0) (ptCells (qs.drop (i))) x9) := by have h : qs.drop i = [] := List.drop_eq_nil_of_le (by have := HQL.out; omega); rw [h]; exact (show PtRow 0 x9 (some ⟨g, 0, none⟩) [] from fun j hj => by simp at hj).src (c := 0)
                    go_upto_region 16 with (at_builtin; go_must (refine wpList_append_src _ rfl _ _ 22 22 rfl x9.heap.size 29 ip (.agg #[.string ⟨#[]⟩, .int .i64 0]) 2 24 Tryz.underlying22 hip hz0 hz1 hz2 rfl (.slice none 0 0) 0 [] rfl HNR.out (.slice (some ⟨g, 0, none⟩) 0 0) (0) (ptCells (qs.drop (i))) rfl HDS.out HMX.out.1 HMX.out.2 (Nat.le_refl _) ?_); intro a6 c6 w6 ho6 hg6; have HO6 : Hid (w6.ownsRow x9.heap.size 29 2 (.slice a6 (0) c6) (0) (ptCells (qs.drop (i)))) := (by show w6.ownsRow _ _ _ _ _ _; simpa using ho6); have KG6 : Hid (Kept Nil x9 w6) := (Kept.refl _ _).grown hg6 (fun g e => by simp [Value.ownBlock] at e); clear ho6 hg6)
                    have HL6 : Hid (w6.ownsRow w.heap.size 29 2 (.slice (some ⟨g, 0, none⟩) i i) (i) (ptCells (qs.take (i)))) := own_kept (HIX.out.own.takeT (i) (by rw [HQL.out] <;> omega)) KG6.out (fun _ _ _ x => x)
                    have HNE : Hid (∀ q, (Value.slice a6 (0) c6).ownBlock = some q → (.slice (some ⟨g, 0, none⟩) i i : Value).ownBlock ≠ some q) := fun q h1 h2 => by
                      have h3 := own_ge HO6.out h1
                      have h4 := own_ltZ (HIX.out.own.takeT (i) (by rw [HQL.out] <;> omega)) h2
                      omega
                    have KW6 : Hid (Kept Nil w w6) := HIX.out.kp.trans KG6.out
                    have p0 : w6.cell? ⟨P, 0, none⟩ = some (.string (bs p.k)) := blk_at (KG6.out.block _ _ HPX.out (fun x => x)) 0 rfl
                    have p1 : w6.cell? ⟨P, 1, none⟩ = some (.int .i64 p.a) := blk_at (KG6.out.block _ _ HPX.out (fun x => x)) 1 rfl
                    have hP6 : P < w6.heap.size := lt_of_block (KG6.out.block _ _ HPX.out (fun x => x))
                    have HBZ : Hid (i + 1 ≤ maxLen ∧ (i + 1) * 24 ≤ 140737488355328 ∧ i + 1 + (0) ≤ maxLen ∧ (i + 1 + (0)) * 24 ≤ 140737488355328) := by have := HM.out; refine ⟨?_, ?_, ?_, ?_⟩ <;> (try unfold maxLen) <;> omega
                    have HWS : Hid (w.heap.size ≤ w6.heap.size) := KW6.out.size
                    have OL : ∀ Y, Kept Nil w6 Y → Y.ownsRow w.heap.size 29 2 (.slice (some ⟨g, 0, none⟩) i i) (i) (ptCells (qs.take (i))) := fun Y kY => own_kept HL6.out kY (fun _ _ _ x => x)
                    have OR : ∀ Y, Kept Nil w6 Y → Y.ownsRow x9.heap.size 29 2 (.slice a6 (0) c6) (0) (ptCells (qs.drop (i))) := fun Y kY => own_kept HO6.out kY (fun _ _ _ x => x)
                    clear HNR HDS
                    go_region_law (first
                      | (refine step_append_src _ rfl (.tmp 92) (.tmp 94) 22 22 rfl w.heap.size 29 ip (.agg #[.string ⟨#[]⟩, .int .i64 0]) 2 24 Tryz.underlying22 hip hz0 hz1 hz2 rfl (.slice (some ⟨g, 0, none⟩) i i) (i) (ptCells (qs.take (i))) (by simp [Act.eval]) (OL _ (by repeat (first | exact Kept.refl _ _ | refine Kept.drew ?_ | refine Kept.alloc ?_ _))) (.slice (some ⟨w6.heap.size, 0, none⟩) 1 1) 1 (ptCells [p]) (by simp [Act.eval]) (src_partZ (by first | exact blk_new w6 _ | exact blk_new w6.drew _)) HBZ.out.1 HBZ.out.2.1 (Nat.le_trans HWS.out (Kept.size (w := w6) (X := Nil) (by repeat (first | exact Kept.refl _ _ | refine Kept.drew ?_ | refine Kept.alloc ?_ _)))) ?_; intro a7 c7 w7 ho7 hg7; have HO7 : Hid (w7.ownsRow w.heap.size 29 2 (.slice a7 (i + 1) c7) (i + 1) (ptCells (qs.take (i)) ++ ptCells [p])) := ho7; have HR7 : Hid (w7.ownsRow x9.heap.size 29 2 (.slice a6 (0) c6) (0) (ptCells (qs.drop (i)))) := own_farZ (OR _ (by repeat (first | exact Kept.refl _ _ | refine Kept.drew ?_ | refine Kept.alloc ?_ _))) hg7 HNE.out; have KG7 : Hid (Kept Nil w w7) := (Kept.trans KW6.out (by repeat (first | exact Kept.refl _ _ | refine Kept.drew ?_ | refine Kept.alloc ?_ _))).grown hg7 (fun q e => own_ge HL6.out e); clear ho7 hg7)
                      | (refine step_append_src _ rfl (.tmp 95) (.tmp 96) 22 22 rfl w.heap.size 29 ip (.agg #[.string ⟨#[]⟩, .int .i64 0]) 2 24 Tryz.underlying22 hip hz0 hz1 hz2 rfl (.slice a7 (i + 1) c7) (i + 1) (ptCells (qs.take (i)) ++ ptCells [p]) (by simp [Act.eval]) HO7.out (.slice a6 (0) c6) (0) (ptCells (qs.drop (i))) (by simp [Act.eval]) (src_rowZ HR7.out (by rw [List.length_drop, HQL.out] <;> omega)) HBZ.out.2.2.1 HBZ.out.2.2.2 KG7.out.size ?_; intro a8 c8 w8 ho8 hg8; have HO8 : Hid (w8.ownsRow w.heap.size 29 2 (.slice a8 (i + 1 + (0)) c8) (i + 1 + (0)) (ptCells (qs.take (i)) ++ ptCells [p] ++ ptCells (qs.drop (i)))) := ho8; have KG8 : Hid (Kept Nil w w8) := KG7.out.grown hg8 (fun q e => own_ge HO7.out e); clear ho8 hg8))
                    all_goals
                      have HNI : Hid (NtI w w8 id ps (insT (i) p qs) (i + 1) a8 c8) := by
                        refine ⟨?_, HRT.out.2, HRT.out.1, fun x hx => ?_, fun e => ?_, KG8.out⟩
                        · have hl : (insT (i) p qs).length = i + 1 + (0) := by rw [insT_len, HQL.out] <;> omega
                          unfold OwnT
                          rw [hl]
                          have h := HO8.out
                          rw [← ptCells_app, ← ptCells_app, List.append_assoc] at h
                          exact h
                        · rw [List.take_succ_eq_append_getElem hil, ← Hp.out] at hx
                          rcases List.mem_append.1 hx with hx | hx
                          · exact HIX.out.ok x hx
                          · rw [List.mem_singleton] at hx
                            rw [hx]
                            exact HOK.out.1
                        · have := congrArg List.length e
                          rw [insT_len] at this
                          simp at this
                      go_wp2
                      go_roundw
                      case rel => exact ⟨i + 1, c8, a8, insT (i) p qs, by omega, by (try rw [show i + 1 = i + 1 + (0) by omega]), by go_num, HNI.out⟩
                      case measure => simp [intOf]; omega
                  · have hkc3 : k < c := by omega
                    obtain ⟨ip, hip, hz0, hz1, hz2⟩ := info_parts Tryz.infoPt
                    have HM : Hid ((i - k) ≤ 4 ∧ k ≤ 4 ∧ i + 1 ≤ 4) := by have := HC.out.2.2.2; have := Hn.out; exact ⟨by omega, by omega, by omega⟩
                    have HMX : Hid (0 + (i - k) ≤ maxLen ∧ (0 + (i - k)) * 24 ≤ 140737488355328) := by have := HM.out.1; constructor <;> (try unfold maxLen) <;> omega
                    have HNR : Hid (x9.ownsRow x9.heap.size 29 2 (.slice none 0 0) 0 []) := World.ownsRow_nil _ _ _ _
                    have HDS : Hid (Src Tryz.prog 2 22 (.slice (some ⟨g, k * 2, none⟩) (i - k) (c - k)) ((i - k)) (ptCells (qs.drop (k))) x9) := by have h := (HIX.out.own.dropT k).src (c := c - k); rw [List.length_drop, HQL.out] at h; exact h
                    go_upto_region 16 with (at_builtin; go_must (refine wpList_append_src _ rfl _ _ 22 22 rfl x9.heap.size 29 ip (.agg #[.string ⟨#[]⟩, .int .i64 0]) 2 24 Tryz.underlying22 hip hz0 hz1 hz2 rfl (.slice none 0 0) 0 [] rfl HNR.out (.slice (some ⟨g, k * 2, none⟩) (i - k) (c - k)) ((i - k)) (ptCells (qs.drop (k))) rfl HDS.out HMX.out.1 HMX.out.2 (Nat.le_refl _) ?_); intro a6 c6 w6 ho6 hg6; have HO6 : Hid (w6.ownsRow x9.heap.size 29 2 (.slice a6 ((i - k)) c6) ((i - k)) (ptCells (qs.drop (k)))) := (by show w6.ownsRow _ _ _ _ _ _; simpa using ho6); have KG6 : Hid (Kept Nil x9 w6) := (Kept.refl _ _).grown hg6 (fun g e => by simp [Value.ownBlock] at e); clear ho6 hg6)
                    have HL6 : Hid (w6.ownsRow w.heap.size 29 2 (.slice (some ⟨g, 0, none⟩) k c) (k) (ptCells (qs.take (k)))) := own_kept (HIX.out.own.takeT (k) (by rw [HQL.out] <;> omega)) KG6.out (fun _ _ _ x => x)
                    have HNE : Hid (∀ q, (Value.slice a6 ((i - k)) c6).ownBlock = some q → (.slice (some ⟨g, 0, none⟩) k c : Value).ownBlock ≠ some q) := fun q h1 h2 => by
                      have h3 := own_ge HO6.out h1
                      have h4 := own_ltZ (HIX.out.own.takeT (k) (by rw [HQL.out] <;> omega)) h2
                      omega
                    have KW6 : Hid (Kept Nil w w6) := HIX.out.kp.trans KG6.out
                    have p0 : w6.cell? ⟨P, 0, none⟩ = some (.string (bs p.k)) := blk_at (KG6.out.block _ _ HPX.out (fun x => x)) 0 rfl
                    have p1 : w6.cell? ⟨P, 1, none⟩ = some (.int .i64 p.a) := blk_at (KG6.out.block _ _ HPX.out (fun x => x)) 1 rfl
                    have hP6 : P < w6.heap.size := lt_of_block (KG6.out.block _ _ HPX.out (fun x => x))
                    have HBZ : Hid (k + 1 ≤ maxLen ∧ (k + 1) * 24 ≤ 140737488355328 ∧ k + 1 + ((i - k)) ≤ maxLen ∧ (k + 1 + ((i - k))) * 24 ≤ 140737488355328) := by have := HM.out; refine ⟨?_, ?_, ?_, ?_⟩ <;> (try unfold maxLen) <;> omega
                    have HWS : Hid (w.heap.size ≤ w6.heap.size) := KW6.out.size
                    have OL : ∀ Y, Kept Nil w6 Y → Y.ownsRow w.heap.size 29 2 (.slice (some ⟨g, 0, none⟩) k c) (k) (ptCells (qs.take (k))) := fun Y kY => own_kept HL6.out kY (fun _ _ _ x => x)
                    have OR : ∀ Y, Kept Nil w6 Y → Y.ownsRow x9.heap.size 29 2 (.slice a6 ((i - k)) c6) ((i - k)) (ptCells (qs.drop (k))) := fun Y kY => own_kept HO6.out kY (fun _ _ _ x => x)
                    clear HNR HDS
                    go_region_law (first
                      | (refine step_append_src _ rfl (.tmp 92) (.tmp 94) 22 22 rfl w.heap.size 29 ip (.agg #[.string ⟨#[]⟩, .int .i64 0]) 2 24 Tryz.underlying22 hip hz0 hz1 hz2 rfl (.slice (some ⟨g, 0, none⟩) k c) (k) (ptCells (qs.take (k))) (by simp [Act.eval]) (OL _ (by repeat (first | exact Kept.refl _ _ | refine Kept.drew ?_ | refine Kept.alloc ?_ _))) (.slice (some ⟨w6.heap.size, 0, none⟩) 1 1) 1 (ptCells [p]) (by simp [Act.eval]) (src_partZ (by first | exact blk_new w6 _ | exact blk_new w6.drew _)) HBZ.out.1 HBZ.out.2.1 (Nat.le_trans HWS.out (Kept.size (w := w6) (X := Nil) (by repeat (first | exact Kept.refl _ _ | refine Kept.drew ?_ | refine Kept.alloc ?_ _)))) ?_; intro a7 c7 w7 ho7 hg7; have HO7 : Hid (w7.ownsRow w.heap.size 29 2 (.slice a7 (k + 1) c7) (k + 1) (ptCells (qs.take (k)) ++ ptCells [p])) := ho7; have HR7 : Hid (w7.ownsRow x9.heap.size 29 2 (.slice a6 ((i - k)) c6) ((i - k)) (ptCells (qs.drop (k)))) := own_farZ (OR _ (by repeat (first | exact Kept.refl _ _ | refine Kept.drew ?_ | refine Kept.alloc ?_ _))) hg7 HNE.out; have KG7 : Hid (Kept Nil w w7) := (Kept.trans KW6.out (by repeat (first | exact Kept.refl _ _ | refine Kept.drew ?_ | refine Kept.alloc ?_ _))).grown hg7 (fun q e => own_ge HL6.out e); clear ho7 hg7)
                      | (refine step_append_src _ rfl (.tmp 95) (.tmp 96) 22 22 rfl w.heap.size 29 ip (.agg #[.string ⟨#[]⟩, .int .i64 0]) 2 24 Tryz.underlying22 hip hz0 hz1 hz2 rfl (.slice a7 (k + 1) c7) (k + 1) (ptCells (qs.take (k)) ++ ptCells [p]) (by simp [Act.eval]) HO7.out (.slice a6 ((i - k)) c6) ((i - k)) (ptCells (qs.drop (k))) (by simp [Act.eval]) (src_rowZ HR7.out (by rw [List.length_drop, HQL.out] <;> omega)) HBZ.out.2.2.1 HBZ.out.2.2.2 KG7.out.size ?_; intro a8 c8 w8 ho8 hg8; have HO8 : Hid (w8.ownsRow w.heap.size 29 2 (.slice a8 (k + 1 + ((i - k))) c8) (k + 1 + ((i - k))) (ptCells (qs.take (k)) ++ ptCells [p] ++ ptCells (qs.drop (k)))) := ho8; have KG8 : Hid (Kept Nil w w8) := KG7.out.grown hg8 (fun q e => own_ge HO7.out e); clear ho8 hg8))
                    all_goals
                      have HNI : Hid (NtI w w8 id ps (insT (k) p qs) (i + 1) a8 c8) := by
                        refine ⟨?_, HRT.out.2, HRT.out.1, fun x hx => ?_, fun e => ?_, KG8.out⟩
                        · have hl : (insT (k) p qs).length = k + 1 + ((i - k)) := by rw [insT_len, HQL.out] <;> omega
                          unfold OwnT
                          rw [hl]
                          have h := HO8.out
                          rw [← ptCells_app, ← ptCells_app, List.append_assoc] at h
                          exact h
                        · rw [List.take_succ_eq_append_getElem hil, ← Hp.out] at hx
                          rcases List.mem_append.1 hx with hx | hx
                          · exact HIX.out.ok x hx
                          · rw [List.mem_singleton] at hx
                            rw [hx]
                            exact HOK.out.1
                        · have := congrArg List.length e
                          rw [insT_len] at this
                          simp at this
                      go_wp2
                      go_roundw
                      case rel => exact ⟨i + 1, c8, a8, insT (k) p qs, by omega, by (try rw [show i + 1 = k + 1 + ((i - k)) by omega]), by go_num, HNI.out⟩
                      case measure => simp [intOf]; omega
      · obtain rfl : i = n := by omega
        have hld : decide ((i : Int) < (i : Int)) = false := decide_eq_false (by omega)
        have hirr : ¬ (i : Int) < (i : Int) := by omega
        have hid : (id.toNat : Int) = id := by have := HC.out.1; omega
        obtain ⟨Y, hY⟩ : ∃ Y, Y = wo.alloc (.cells #[.int .i64 id, .slice ao i c, .string ⟨#[98, 101, 103, 105, 110]⟩, .int .i64 0, .slice none 0 0, .int .i64 0, .int .i64 0, .int .i64 0, .int .i64 0, .bool false, .int .i64 1] 45) := ⟨_, rfl⟩
        obtain ⟨b, Hb⟩ : ∃ b, Hid (b = wo.heap.size) := ⟨_, rfl⟩
        have HF : Hid (NewGood id ps ∧ ∃ qs b' ap cp, qs.Perm ps ∧ RiseT qs ∧ (Ending.returned (.tuple #[.pointer (some ⟨b, 0, none⟩), .int .i64 0])) = .returned (.tuple #[.pointer (some ⟨b', 0, none⟩), .int .i64 0]) ∧ TdAt Y b' (newTx id.toNat qs) ⟨Hd.no, 0, false⟩ ap none cp 0 ∧ OwnT w.heap.size Y ap cp qs ∧ w.heap.size ≤ b' ∧ Kept Nil w Y) := by
          obtain ⟨h1, h2, h3, h4, h5, h6⟩ := HI.out
          have hlen := HI.out.len (by rw [← Hn.out]; exact Nat.le_refl _)
          have hk : Kept Nil wo Y := by rw [hY]; exact (Kept.refl _ _).alloc _
          rw [Hn.out, List.take_length] at h2 h4
          refine ⟨good_end HC.out.1 HC.out.2.1 HC.out.2.2.1 HC.out.2.2.2 h2 h3 h4, qs, b, ao, c, h2, h3.rise, rfl, ?_, h1.keptX hk (fun _ _ _ x => x), by rw [Hb.out]; exact h6.size, h6.trans hk⟩
          have hb := blk_new wo (.cells #[.int .i64 id, .slice ao i c, .string ⟨#[98, 101, 103, 105, 110]⟩, .int .i64 0, .slice none 0 0, .int .i64 0, .int .i64 0, .int .i64 0, .int .i64 0, .bool false, .int .i64 1] 45)
          rw [← hY, ← Hb.out] at hb
          unfold TdAt newTx
          simp only [hlen, hid]
          exact hb
        go_wp2
        rw [← hY, ← Hb.out]
        clear hY Hb
        exact bodyPost_ret (v := .tuple #[.pointer (some ⟨b, 0, none⟩), .int .i64 0]) (by simp [results, Tryz.results12, go_sem]) rfl (.inr HF.out)
end Go.Proofs.YtflnjlbafchnaaaGreatDoor
