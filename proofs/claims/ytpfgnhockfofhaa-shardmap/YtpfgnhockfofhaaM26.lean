/-
  Joined: WShO, WSk2, WSk4.
-/
import Derived.Test.YtpfgnhockfofhaaM25
import Derived.Test.YtpfgnhockfofhaaM19
import Derived.Test.YtpfgnhockfofhaaM21
/-
  Shards: Look, Way.
-/
namespace Go.Proofs.Ytpfgnhockfofhaa
open Go.RowKit

set_option maxRecDepth 100000 in
set_option maxHeartbeats 1000000 in
theorem cloneI_any (B c : Nat) (ao : Option Addr) (ps : List Pr) (w : World) (h : OwnIt B w ao c ps) (hl : (ps.length : Int) ≤ 100000000000) :
    Calls Try.prog 44 #[.slice ao ps.length c] w fun e w' => ∃ ao' c', e = .returned (.slice ao' ps.length c') ∧ OwnIt w.heap.size w' ao' c' ps ∧ Kept Nil w w' := by
  obtain ⟨i0, hi, hz0, hz1, hz2⟩ := info_parts Try.infoOwnIt
  cases ao with
  | none =>
    obtain ⟨rfl, rfl⟩ := h.none
    have hnil : ∀ w : World, (binOp .eql 102 (.slice none 0 0) (.slice none 0 0)).run Try.prog w = .ok (.bool true) w := fun w => Lib.run_eql_slice_nil w 102 117 none 0 0 0 0 Try.underlying102
    go_enter Try.func44, Try.ntmps44
    go_wp2
    go_ret
    exact ⟨none, 0, rfl, World.ownsRow_nil _ _ _ _, Kept.refl _ _⟩
  | some a =>
    have HS : Hid (Src Try.prog 2 102 (.slice (some a) ps.length c) ps.length (itCells ps) (w.alloc (.cells #[] 117))) := (h.kept ((Kept.refl _ _).alloc _)).src
    have HO : Hid ((w.alloc (.cells #[] 117)).ownsRow w.heap.size 117 2 (.slice (some ⟨w.heap.size, 0, none⟩) 0 0) 0 []) := World.ownsRow_lit w #[] 0 (Nat.le_refl _) (by decide) rfl
    have HLL : Hid (0 + ps.length ≤ maxLen ∧ (0 + ps.length) * 32 ≤ 140737488355328) := by constructor <;> (try unfold maxLen) <;> omega
    have hnil : ∀ w : World, (binOp .eql 102 (.slice (some a) ps.length c) (.slice none 0 0)).run Try.prog w = .ok (.bool false) w := fun w => Lib.run_eql_slice_nil w 102 117 (some a) ps.length c 0 0 Try.underlying102
    clear h hl
    go_enter Try.func44, Try.ntmps44
    go_wp2_with (at_builtin; go_must (refine wpList_append_src _ rfl _ _ 102 102 rfl w.heap.size 117 i0 (.agg #[.string ⟨#[]⟩, .string ⟨#[]⟩]) 2 32 Try.underlying102 hi hz0 hz1 hz2 rfl _ _ _ rfl HO.out (.slice (some a) ps.length c) ps.length (itCells ps) rfl HS.out HLL.out.1 HLL.out.2 (by simp) ?_); intro ao' c' w1 ho' hg'; have HO1 : Hid (w1.ownsRow w.heap.size 117 2 (.slice ao' (0 + ps.length) c') (0 + ps.length) ([] ++ itCells ps)) := ho'; have HG1 : Hid _ := hg'; clear ho' hg')
    go_ret
    have ho := HO1.out
    rw [Nat.zero_add, List.nil_append] at ho
    exact ⟨ao', c', rfl, ho, ((Kept.refl _ _).alloc _).grown HG1.out (fun k hk => own_row HO.out k hk)⟩
set_option maxRecDepth 100000 in
set_option maxHeartbeats 1000000 in
theorem way_any (n b hb ch m cw : Nat) (aw : Option Addr) (w : World) (h : w.heap[b]? = some (.cells #[.slice (some ⟨hb, 0, none⟩) n ch, .slice aw m cw] 98 (0, 0))) :
    Calls Try.prog 28 #[.pointer (some ⟨b, 0, none⟩)] w fun e w' => e = .returned (.int .i64 m) ∧ w' = w := by
  have s1 : w.cell? ⟨b, 1, none⟩ = some (.slice aw m cw) := blk_at h 1 rfl
  have hbl : b < w.heap.size := lt_of_block h
  clear h
  go_enter Try.func28, Try.ntmps28
  go_wp2
  go_ret
  exact ⟨rfl, rfl⟩
set_option maxRecDepth 100000 in
set_option maxHeartbeats 4000000 in
theorem look_yes (K : List (List UInt8)) (M i : Nat) (Gs : Nat → Nat → Prop) (b hb ch cw : Nat) (hs : Nat → Nat) (aw : Option Addr) (S : Sd) (id : Int) (w : World) (x : ShX Gs w b hb ch hs aw cw S) (inv : Inv K M S) (hM : M ≤ 1900000) (hid : id = ((i + 1 : Nat) : Int)) (hi : i < S.n) :
    Calls Try.prog 34 #[.pointer (some ⟨b, 0, none⟩), .int .i64 id] w fun e w' => ∃ a1 c1 a2 c2, e = .returned (.tuple #[.slice a1 (S.ho i).it.length c1, .slice a2 (S.ho i).kb.length c2, .bool true]) ∧ OwnIt w.heap.size w' a1 c1 (S.ho i).it ∧ OwnB w.heap.size w' a2 c2 (S.ho i).kb ∧ Kept Nil w w' := by
  have hn9 := inv.n1.2
  have IH := isHost_any S.n b hb ch _ id w x.blk
  rw [show isHo S.n id = true from isHo_iff.2 ⟨by omega, by omega⟩] at IH
  have ok := inv.ho i hi
  have hkl := ok.kl
  have hil : (S.ho i).it.length ≤ M := Nat.le_trans ok.len inv.kl
  obtain ⟨v1, v2, v3⟩ := vb_facts ok.kv
  obtain ⟨rb, ao, cs, ai, ci, gk, ck, y⟩ := x.ho i hi
  obtain ⟨h, Hh⟩ : ∃ h, Hid (h = S.ho i) := ⟨_, rfl⟩
  rw [← Hh.out] at y hkl hil v1 v2 v3 ⊢
  have HY : Hid (HoX (Gs i) w (hs i) rb (i + 1 : Nat) ao cs ai ci gk ck h) := y
  have s0 : w.cell? ⟨b, 0, none⟩ = some (.slice (some ⟨hb, 0, none⟩) S.n ch) := blk_at x.blk 0 rfl
  have hat : w.cell? ⟨hb, i, none⟩ = some (.pointer (some ⟨hs i, 0, none⟩)) := x.at hi
  have q2 : w.cell? ⟨hs i, 2, none⟩ = some (.slice ai h.it.length ci) := blk_at y.ho 2 rfl
  have q3 : w.cell? ⟨hs i, 3, none⟩ = some (.slice (some ⟨gk, 0, none⟩) h.kb.length ck) := blk_at y.ho 3 rfl
  have hbl : b < w.heap.size := lt_of_block x.blk
  have hhl : hs i < w.heap.size := lt_of_block y.ho
  have hgl : hb < w.heap.size := World.block_lt_of_cell? w _ hat
  have hwr : IntKind.i64.wrap (id - 1) = (i : Int) := by rw [IntKind.wrap_i64]; omega
  have hii : (i : Int) < (S.n : Int) := by omega
  have HFB : Hid (FitB h.kb) := v3
  have CI := cloneI_any 0 ci ai h.it w.drew (y.it.kept (Kept.refl _ _).drew) (by omega)
  clear x inv ok y v1 v2 v3 hid
  go_enter Try.func34, Try.ntmps34
  go_wp2_with fail
  go_fit IH
  rintro e w1 ⟨rfl, rfl⟩
  clear IH
  go_wp2
  go_region_with (first | (go_at_call 44; go_must (go_fit CI); rintro e w2 ⟨a1, c1, rfl, o1, k1⟩; have K1 : Hid (Kept Nil w1 w2) := (Kept.refl _ _).drew.trans k1; have O1 : Hid (OwnIt w1.heap.size w2 a1 c1 h.it) := o1; have Y2 : Hid (HoX (Gs i) w2 (hs i) rb (i + 1 : Nat) ao cs ai ci gk ck h) := HY.out.kept K1.out; have e3 : w2.cell? ⟨hs i, 3, none⟩ = some (.slice (some ⟨gk, 0, none⟩) h.kb.length ck) := blk_at Y2.out.ho 3 rfl; have CB := cloneB_any w2.heap.size ck ⟨gk, 0, none⟩ h.kb w2 (Y2.out.bounds HFB.out) (by omega); clear o1 k1) | (go_at_call 45; go_must (go_fit CB); rintro e w3 ⟨a2, c2, rfl, o2, k2⟩; have K2 : Hid (Kept Nil w1 w3) := K1.out.trans k2; have O2 : Hid (OwnIt w1.heap.size w3 a1 c1 h.it ∧ OwnB w1.heap.size w3 a2 c2 h.kb) := ⟨O1.out.kept k2, o2.mono K1.out.size⟩; clear o2 k2))
  all_goals
    go_wp2
    go_ret3
    exact ⟨a1, c1, a2, c2, rfl, O2.out.1, O2.out.2, K2.out⟩
end Go.Proofs.Ytpfgnhockfofhaa

/-
  Shared by many: who says that he has which key.
-/
namespace Go.Proofs.Ytpfgnhockfofhaa
open Go.RowKit

/-- Of a key the last of the first hosts that says it has it. -/
def ow (S : Sd) (k : Nat) : Nat → Int
  | 0 => 0
  | m + 1 => if hoR 0 (S.ho m).kb (lt k) = (m : Int) + 1 then (m : Int) + 1 else ow S k m
theorem ow_zero {S : Sd} {k : Nat} : ∀ {m : Nat}, (∀ h, h < m → hoR 0 (S.ho h).kb (lt k) ≠ (h : Int) + 1) → ow S k m = 0
  | 0, _ => rfl
  | m + 1, h => by
    show (if _ then _ else _) = _
    rw [if_neg (h m (Nat.lt_succ_self _))]
    exact ow_zero (fun i hi => h i (Nat.lt_succ_of_lt hi))
/-- Who says it has a key, if it has it. -/
theorem ow_own {S : Sd} {k h : Nat} : ∀ {m : Nat}, h < m → hoR 0 (S.ho h).kb (lt k) = (h : Int) + 1 → (∀ a, a < m → hoR 0 (S.ho a).kb (lt k) = (a : Int) + 1 → a = h) → ow S k m = (h : Int) + 1
  | 0, hm, _, _ => absurd hm (Nat.not_lt_zero _)
  | m + 1, hm, hh, hu => by
    show (if _ then _ else _) = _
    by_cases e : m = h
    · subst e; rw [if_pos hh]
    · rw [if_neg (fun x => e (hu m (Nat.lt_succ_self _) x))]
      exact ow_own (by omega) hh (fun a ha => hu a (Nat.lt_succ_of_lt ha))
def owF (S : Sd) (k : Nat) : Int := ow S k S.n
/-- Twenty numbers in a block. -/
def RowI (w : World) (A : Nat) (f : Nat → Int) : Prop := w.heap[A]? = some (.cells (arrI f) 70 (0, 0))
theorem arrI_set (f : Nat → Int) {k : Nat} (h : k < 20) (v : Int) : (arrI f).setIfInBounds k (.int .i64 v) = arrI (upd f k v) := by
  apply Array.ext_getElem?
  intro j
  rw [Array.getElem?_setIfInBounds]
  by_cases e : k = j
  · subst e
    rw [if_pos rfl, if_pos (by rw [arrI_size]; exact h), arrI_at _ h, upd_self]
  · rw [if_neg e]
    by_cases hj : j < 20
    · rw [arrI_at _ hj, arrI_at _ hj, upd_ne _ _ (Ne.symm e)]
    · rw [Array.getElem?_eq_none (by rw [arrI_size]; omega), Array.getElem?_eq_none (by rw [arrI_size]; omega)]
theorem RowI.set {w : World} {A : Nat} {f : Nat → Int} (h : RowI w A f) {k : Nat} (hk : k < 20) (v : Int) : RowI (w.setCell ⟨A, k, none⟩ (.int .i64 v)) A (upd f k v) := by
  have := blk_set h k (.int .i64 v)
  rw [arrI_set f hk] at this
  exact this
theorem arrI_congr {f g : Nat → Int} (h : ∀ k, k < 20 → f k = g k) : arrI f = arrI g := by
  unfold arrI
  congr 1
  exact List.map_congr_left (fun k hk => by rw [h k (List.mem_range.1 hk)])
theorem arrI_zero : arrI (fun _ => 0) = #[.int .i64 0, .int .i64 0, .int .i64 0, .int .i64 0, .int .i64 0, .int .i64 0, .int .i64 0, .int .i64 0, .int .i64 0, .int .i64 0, .int .i64 0, .int .i64 0, .int .i64 0, .int .i64 0, .int .i64 0, .int .i64 0, .int .i64 0, .int .i64 0, .int .i64 0, .int .i64 0] := by rfl
theorem results_cellS {fn : Func} {p q : Tmp} {ty : TypeId} {P : Program} {w : World} {tmps : Array Value} {b : Nat} {cs : Array Value} {t : TypeId} {d : TypeDesc} (h : fn.results = #[.cell p ty, .tmp q]) (hp : tmps.getD p undef = .pointer (some ⟨b, 0, none⟩))
    (hb : w.heap[b]? = some (.cells cs t (0, 0))) (hu : P.underlying ty = some d) (hd : d.isRow = true) {n : Nat} (hi : (P.info? ty).map (·.size) = some n) (hn : cs.size = n) {v : Value} (hq : tmps.getD q undef = v) : (results fn tmps).run P w = .ok (.tuple #[.agg cs, v]) w := by
  have hl := run_loadVar_mid (P := P) w b 0 ty cs.toList d (rng_blk hb) hu hd (by rw [hi, ← hn]; simp)
  simp only [Array.toArray_toList] at hl
  have hp' : tmps[p]?.getD undef = .pointer (some ⟨b, 0, none⟩) := by simpa using hp
  have hq' : tmps[q]?.getD undef = v := by simpa using hq
  simp [results, h, hp', hq', asAddr, hl]
theorem Try.sizeA20 : (Try.prog.info? 70).map (·.size) = some 20 := by kernel_rfl
/-- The row while host i is at key k. -/
def owAt (S : Sd) (i k : Nat) : Nat → Int := fun j => if j < k then ow S j (i + 1) else ow S j i
theorem owAt_next (S : Sd) {i k : Nat} (h : hoR 0 (S.ho i).kb (lt k) = (i : Int) + 1) : upd (owAt S i k) k ((i : Int) + 1) = owAt S i (k + 1) := by
  funext j
  unfold owAt
  by_cases e : j = k
  · subst e
    rw [upd_self, if_pos (Nat.lt_succ_self _)]
    show _ = (if _ then _ else _)
    rw [if_pos h]
  · rw [upd_ne _ _ e]
    by_cases hj : j < k
    · rw [if_pos hj, if_pos (by omega)]
    · rw [if_neg hj, if_neg (by omega)]
theorem owAt_skip (S : Sd) {i k : Nat} (h : hoR 0 (S.ho i).kb (lt k) ≠ (i : Int) + 1) : owAt S i k = owAt S i (k + 1) := by
  funext j
  unfold owAt
  by_cases e : j = k
  · subst e
    rw [if_neg (Nat.lt_irrefl _), if_pos (Nat.lt_succ_self _)]
    show _ = (if _ then _ else _)
    rw [if_neg h]
  · by_cases hj : j < k
    · rw [if_pos hj, if_pos (by omega)]
    · rw [if_neg hj, if_neg (by omega)]
set_option maxRecDepth 100000 in
set_option maxHeartbeats 8000000 in
theorem owners_any (K : List (List UInt8)) (M : Nat) (Gs : Nat → Nat → Prop) (b hb ch cw : Nat) (hs : Nat → Nat) (aw : Option Addr) (S : Sd) (sn : Snt) (Mp : Nat → Option (List UInt8)) (w : World) (x : ShX Gs w b hb ch hs aw cw S) (jj : JJ K M S sn Mp) (hM : M ≤ 1900000) :
    Calls Try.prog 24 #[.pointer (some ⟨b, 0, none⟩), .int .i64 S.n] w fun e w' => e = .returned (.tuple #[.agg (arrI (owF S)), .bool true]) ∧ Kept Nil w w' := by
  have HX : Hid (ShX Gs w b hb ch hs aw cw S) := x
  have HJ : Hid (JJ K M S sn Mp) := jj
  have hn9 := jj.inv.n1.2
  obtain ⟨n, HN⟩ : ∃ n, Hid (n = S.n) := ⟨_, rfl⟩
  rw [← HN.out] at hn9 ⊢
  obtain ⟨W, hW⟩ : ∃ W, W = (w.alloc (.cells (arrI fun _ => 0) 70)).alloc (.cells (arrI fun _ => 0) 70) := ⟨_, rfl⟩
  obtain ⟨R, HR⟩ : ∃ A : Nat, Hid (A = w.heap.size) := ⟨_, rfl⟩
  obtain ⟨A, HA⟩ : ∃ R : Nat, Hid (R = w.heap.size + 1) := ⟨_, rfl⟩
  have KW : Hid (Kept Nil w W) := by rw [hW]; exact ((Kept.refl _ _).alloc _).alloc _
  have HRW : Hid (RowI W R (fun _ => 0)) := by rw [hW, HR.out]; exact blk_past (blk_new _ _) _
  have HAW : Hid (RowI W A (owAt S 0 0)) := by rw [hW, HA.out]; exact blk_new1 w _ _
  have HNE : Hid (R ≠ A) := fun e => by have := HA.out; have := HR.out; omega
  have HAz : Hid (A < W.heap.size) := lt_of_block HAW.out
  have hno : Hid (w.heap.size ≤ A) := by have := HA.out; show _ ≤ _; omega
  rw [arrI_zero] at hW
  clear x jj
  go_enter Try.func24, Try.ntmps24
  go_upto_region 2 with fail
  rw [← hW, ← HA.out, ← HR.out]
  clear hW
  go_wp2
  go_loopw [7, 8] (fun v u wr => ∃ i : Nat, i ≤ n ∧ u = .int .i64 ((i : Int) + 1) ∧ v = .bool true ∧ Hid (Kept Nil w wr) ∧ Hid (A < wr.heap.size) ∧ Hid (RowI wr A (owAt S i 0)) ∧ Hid (RowI wr R (fun _ => 0))) (fun _ u _ => n + 1 - (intOf u).toNat)
  case atStart => exact ⟨0, Nat.zero_le _, rfl, rfl, KW.out, HAz.out, HAW.out, HRW.out⟩
  case round =>
    obtain ⟨i, hi, rfl, rfl, HK, HAz2, HRA, HRR⟩ := hrel
    clear HAW HRW KW HAz
    by_cases hlt : i < n
    · have hii : (i : Int) + 1 ≤ n := by omega
      have hiS : i < S.n := by rw [← HN.out]; exact hlt
      have HXr : Hid (ShX Gs wr b hb ch hs aw cw S) := HX.out.kept HK.out
      have LY := look_yes K M i Gs b hb ch cw hs aw S ((i : Int) + 1) wr HXr.out HJ.out.inv hM (by omega) hiS
      have HOK : Hid (OkH K M (S.ho i)) := HJ.out.inv.ho i hiS
      obtain ⟨h, Hh⟩ : ∃ h, Hid (h = S.ho i) := ⟨_, rfl⟩
      rw [← Hh.out] at LY HOK
      obtain ⟨v1, v2, v3⟩ := vb_facts HOK.out.kv
      have hkl := HOK.out.kl
      have HV3 : Hid (FitB h.kb) := v3
      have HSr : Hid (Sh h.kb) := (valid_sh.1 HOK.out.kv).1
      have hkb : (h.kb.length : Int) ≤ 4611686018427387903 := by omega
      clear v1 v2 v3 hkl
      go_wp2_with fail
      go_fit LY
      rintro e w5 ⟨a1, c1, a2, c2, rfl, _, o2, k5⟩
      have HO5 : Hid (OwnB wr.heap.size w5 a2 c2 h.kb) := o2
      have HK5 : Hid (Kept Nil wr w5) := k5
      have HRA5 : Hid (RowI w5 A (owAt S i 0)) := k5.block _ _ HRA.out (fun e => e)
      have HRR5 : Hid (RowI w5 R (fun _ => 0)) := k5.block _ _ HRR.out (fun e => e)
      obtain ⟨ad, HAD⟩ : ∃ ad, Hid (a2 = some ad) := by
        obtain ⟨ad, e, _⟩ := (o2.row HV3.out) 0 HSr.out.pos
        exact ⟨ad, e⟩
      rw [HAD.out] at HO5 ⊢
      clear LY o2 k5 HAD
      go_wp2
      go_loopw [7, 12] (fun v u wq => ∃ k : Nat, k ≤ 20 ∧ u = .int .i64 k ∧ v = .bool true ∧ Hid (Kept (One A) w5 wq) ∧ Hid (RowI wq A (owAt S i k))) (fun _ u _ => 20 - (intOf u).toNat)
      case atStart => exact ⟨0, Nat.zero_le _, rfl, rfl, Kept.refl _ _, HRA5.out⟩
      case round =>
        obtain ⟨k, hk, rfl, rfl, HKq, HRq⟩ := hrel
        by_cases hk20 : k < 20
        · have hki : (k : Int) < 20 := by omega
          rename World => wq
          have HOq : Hid (OwnB wr.heap.size wq (some ad) c2 h.kb) := own_kept HO5.out HKq.out (fun q _ hq e => by have e : q = A := e; have := HAz2.out; omega)
          have HH := hostAt_any wq.heap.size c2 ad h.kb (lt k) wq (HOq.out.row HV3.out) hkb
          rw [hoF_is HSr.out.srt] at HH
          have HQ : Hid (hoR 0 h.kb (lt k) = hoR 0 (S.ho i).kb (lt k)) := by rw [Hh.out]; exact rfl
          obtain ⟨v, HV⟩ : ∃ v, Hid (v = hoR 0 h.kb (lt k)) := ⟨_, rfl⟩
          rw [← HV.out] at HH
          have HVS : Hid (v = hoR 0 (S.ho i).kb (lt k)) := by rw [HV.out]; exact HQ.out
          have c0 : wq.cell? ⟨A, k, none⟩ = some (.int .i64 (owAt S i k k)) := blk_at HRq.out k (arrI_at _ hk20)
          have f0 : wq.frozen? ⟨A, k, none⟩ = false := blk_free HRq.out _
          have l0 : A < wq.heap.size := lt_of_block HRq.out
          have hx := ltE hk20
          go_wp2_with fail
          go_fit HH
          rintro e _ ⟨rfl, hz⟩
          rw [hz]
          clear hz HH
          by_cases hv : v = (i : Int) + 1
          · have HS1 : Hid (hoR 0 (S.ho i).kb (lt k) = (i : Int) + 1) := HVS.out.symm.trans hv
            have hz0 : owAt S i k k = 0 := by
              unfold owAt
              rw [if_neg (Nat.lt_irrefl _)]
              exact ow_zero (fun a ha e => by
                have := HJ.out.one hk20 (by omega) hiS e HS1.out
                omega)
            rw [hz0] at c0
            have HN2 : Hid (upd (owAt S i k) k ((i : Int) + 1) = owAt S i (k + 1)) := owAt_next S HS1.out
            clear HV HVS hz0
            subst hv
            go_wp2
            go_roundw
            case rel => exact ⟨k + 1, by omega, by go_num, by trivial, HKq.out.setT (fun _ _ => rfl) _ _, by rw [← HN2.out]; exact HRq.out.set hk20 _⟩
            case measure => simp [intOf]; omega
          · have n1 : (v == (i : Int) + 1) = false := by simpa using hv
            have HN2 : Hid (owAt S i k = owAt S i (k + 1)) := owAt_skip S (fun e => hv (HVS.out.trans e))
            clear HV HVS
            go_wp2
            go_roundw
            case rel => exact ⟨k + 1, by omega, by go_num, by trivial, HKq.out, by rw [← HN2.out]; exact HRq.out⟩
            case measure => simp [intOf]; omega
        · obtain rfl : k = 20 := by omega
          have HEQ : Hid (RowI wr A (owAt S (i + 1) 0)) := by
            have h := HRq.out
            unfold RowI at h ⊢
            rw [arrI_congr (g := owAt S (i + 1) 0) (fun j hj => by unfold owAt; rw [if_pos hj, if_neg (Nat.not_lt_zero _)])] at h
            exact h
          have HRq2 : Hid (RowI wr R (fun _ => 0)) := HKq.out.block _ _ HRR5.out (fun e => HNE.out e)
          have HKE : Hid (Kept Nil w wr) := (HK.out.trans HK5.out).oneN HKq.out hno.out
          have HAE : Hid (A < wr.heap.size) := lt_of_block HEQ.out
          go_wp2
          go_roundw
          case rel => exact ⟨i + 1, by omega, by congr 1, by trivial, HKE.out, HAE.out, HEQ.out, HRq2.out⟩
          case measure => simp [intOf]; omega
    · obtain rfl : i = n := by omega
      have hii : ¬ (i : Int) + 1 ≤ i := by omega
      have HEQ : Hid (wr.heap[A]? = some (.cells (arrI (owF S)) 70 (0, 0))) := by
        have h := HRA.out
        unfold RowI at h
        rw [arrI_congr (g := owF S) (fun j hj => by unfold owAt owF; rw [if_neg (Nat.not_lt_zero _), HN.out])] at h
        exact h
      go_wp2_with (first | ((with_reducible refine atLoad 70 ?_); go_must (refine wpList_loadW rfl _ _ rfl _ rfl _ _ _ HEQ.out Try.underlying70 rfl Try.sizeA20 (arrI_size _) ?_)) | ((with_reducible refine atStore 70 ?_); go_must (refine wpList_storeW rfl _ _ _ rfl _ (arrI (owF S)) _ _ rfl rfl HRR.out ((arrI_size _).trans (arrI_size _).symm) Try.sizeA20 (arrI_size _) (arrI_one _) ?_); intro w9 hb9 hk9 hs9))
      trace_state
      refine bodyPost_ret (results_cellS rfl rfl hb9 Try.underlying70 rfl Try.sizeA20 (arrI_size _) rfl) rfl ?_
      exact ⟨rfl, HK.out.oneN hk9 (by have := HR.out; omega)⟩
end Go.Proofs.Ytpfgnhockfofhaa

/-
  Shared by many: a step of the script, tamed.
-/
namespace Go.Proofs.Ytpfgnhockfofhaa
open Go.RowKit

/-- A step as the law does it. -/
structure Tame (n : Nat) (s : Sp) : Prop where
  kd : 1 ≤ s.kd ∧ s.kd ≤ 8
  hs : ∃ h, h < n ∧ s.hs = (h : Int) + 1
  ot : ∃ h, h < n ∧ s.ot = (h : Int) + 1
  ky : ∃ k, k < 20 ∧ s.ky = lt k
  up : isU s.up
  vl : s.vl.length ≤ 9
def stB (kd hs ot nn : Int) (ky up vl : List UInt8) : Array Value := #[.int .i64 kd, .int .i64 hs, .int .i64 ot, .int .i64 nn, .string (bs ky), .string (bs up), .string (bs vl)]
theorem stB_one (kd hs ot nn : Int) (ky up vl : List UInt8) : (stB kd hs ot nn ky up vl).all (·.oneCell') = true := by unfold stB; simp [Value.oneCell']
theorem pick_is (c n : Int) (q : Int) (w : World) (hn : 0 < n) (hn2 : n ≤ 9223372036854775807) (hq : q = c % n) : Calls Try.prog 22 #[.int .i64 c, .int .i64 n] w fun e w' => e = .returned (.int .i64 q) ∧ w' = w := by rw [hq]; exact pick_any c n w hn hn2
theorem pick_in (c n : Int) (hn : 0 < n) : 0 ≤ c % n ∧ c % n < n := ⟨Int.emod_nonneg c (by omega), Int.emod_lt_of_pos c hn⟩
set_option maxRecDepth 100000 in
set_option maxHeartbeats 8000000 in
theorem shardStep_any (n : Nat) (s : Sp) (w : World) (h1 : 1 ≤ n) (h9 : n ≤ 9) (hl : s.up.length ≤ 9223372036854775807 ∧ s.vl.length ≤ 9223372036854775807) :
    Calls Try.prog 25 #[.agg (stC s), .int .i64 n] w fun e w' => (∃ t, e = .returned (.agg (stC t)) ∧ Tame n t) ∧ Kept Nil w w' := by
  obtain ⟨kd, hs, ot, nn, ky, up, vl⟩ := s
  dsimp only at hl
  have t5 : (bs up).size = up.length := bs_size up
  have t6 : (bs vl).size = vl.length := bs_size vl
  obtain ⟨W, hW⟩ : ∃ W, W = (w.alloc (.cells (stB kd hs ot nn ky up vl) 74)).alloc (.cells (stB 0 0 0 0 [] [] []) 74) := ⟨_, rfl⟩
  obtain ⟨A, HA⟩ : ∃ A : Nat, Hid (A = w.heap.size) := ⟨_, rfl⟩
  obtain ⟨R, HR⟩ : ∃ R : Nat, Hid (R = w.heap.size + 1) := ⟨_, rfl⟩
  have KW : Hid (Kept Nil w W) := by rw [hW]; exact ((Kept.refl _ _).alloc _).alloc _
  have HAW : Hid (W.heap[A]? = some (.cells (stB kd hs ot nn ky up vl) 74 (0, 0))) := by rw [hW, HA.out]; exact blk_past (blk_new _ _) _
  have HRW : Hid (W.heap[R]? = some (.cells (stB 0 0 0 0 [] [] []) 74 (0, 0))) := by rw [hW, HR.out]; exact blk_new1 w _ _
  have HNE : Hid (R ≠ A) := fun e => by have := HA.out; have := HR.out; omega
  have HnoA : Hid (∀ o, w.heap[A]? = some o → Nil A o) := fun o ho => by have := lt_of_block ho; have := HA.out; omega
  have HnoR : Hid (∀ o, w.heap[R]? = some o → Nil R o) := fun o ho => by have := lt_of_block ho; have := HR.out; omega
  unfold stC
  go_enter Try.func25, Try.ntmps25
  go_upto_region 1 with fail
  rw [show (w.alloc (.cells #[.int .i64 kd, .int .i64 hs, .int .i64 ot, .int .i64 nn, .string (bs ky), .string (bs up), .string (bs vl)] 74)).alloc (.cells #[.int .i64 0, .int .i64 0, .int .i64 0, .int .i64 0, .string ⟨#[]⟩, .string ⟨#[]⟩, .string ⟨#[]⟩] 74) = W from hW.symm, ← HR.out, ← HA.out]
  clear hW
  obtain ⟨q1, HQ0⟩ : ∃ q : Int, Hid (q = wrap64 (kd - 1) % 8) := ⟨_, rfl⟩
  obtain ⟨a0, b0⟩ : 0 ≤ q1 ∧ q1 < 8 := by rw [HQ0.out]; exact pick_in _ _ (by omega)
  have P0 := pick_is (wrap64 (kd - 1)) 8 q1 W (by omega) (by omega) HQ0.out
  have c0 : W.cell? ⟨A, 0, none⟩ = some (.int .i64 kd) := blk_at HAW.out 0 rfl
  have f0 : W.frozen? ⟨A, 0, none⟩ = false := blk_free HAW.out _
  have l0 : A < W.heap.size := lt_of_block HAW.out
  have hw0 : IntKind.i64.wrap (1 + q1) = 1 + q1 := IntWalk.i64_in _ (by omega)
  go_wp2_with fail
  go_fit P0
  rintro e _ ⟨rfl, hz⟩
  rw [hz]
  clear hz P0
  go_upto_region 2 with fail
  obtain ⟨W1, hv⟩ : ∃ V, V = W.setCell ⟨A, 0, none⟩ (.int .i64 (1 + q1)) := ⟨_, rfl⟩
  have HBW1 : Hid (W1.heap[A]? = some (.cells (stB (1 + q1) hs ot nn ky up vl) 74 (0, 0))) := by rw [hv]; exact blk_set HAW.out _ _
  have HRW1 : Hid (W1.heap[R]? = some (.cells (stB 0 0 0 0 [] [] []) 74 (0, 0))) := by rw [hv]; exact blk_other HRW.out HNE.out _
  have KW1 : Hid (Kept Nil w W1) := by rw [hv]; exact KW.out.setT HnoA.out _ _
  rw [← hv]
  clear hv c0 f0 l0 hw0 HAW HRW KW
  obtain ⟨q2, HQ1⟩ : ∃ q : Int, Hid (q = wrap64 (hs - 1) % (n : Int)) := ⟨_, rfl⟩
  obtain ⟨a1, b1⟩ : 0 ≤ q2 ∧ q2 < (n : Int) := by rw [HQ1.out]; exact pick_in _ _ (by omega)
  have P1 := pick_is (wrap64 (hs - 1)) (n : Int) q2 W1 (by omega) (by omega) HQ1.out
  have c1 : W1.cell? ⟨A, 1, none⟩ = some (.int .i64 hs) := blk_at HBW1.out 1 rfl
  have f1 : W1.frozen? ⟨A, 1, none⟩ = false := blk_free HBW1.out _
  have l1 : A < W1.heap.size := lt_of_block HBW1.out
  have hw1 : IntKind.i64.wrap (1 + q2) = 1 + q2 := IntWalk.i64_in _ (by omega)
  go_wp2_with fail
  go_fit P1
  rintro e _ ⟨rfl, hz⟩
  rw [hz]
  clear hz P1
  go_upto_region 3 with fail
  obtain ⟨W2, hv⟩ : ∃ V, V = W1.setCell ⟨A, 1, none⟩ (.int .i64 (1 + q2)) := ⟨_, rfl⟩
  have HBW2 : Hid (W2.heap[A]? = some (.cells (stB (1 + q1) (1 + q2) ot nn ky up vl) 74 (0, 0))) := by rw [hv]; exact blk_set HBW1.out _ _
  have HRW2 : Hid (W2.heap[R]? = some (.cells (stB 0 0 0 0 [] [] []) 74 (0, 0))) := by rw [hv]; exact blk_other HRW1.out HNE.out _
  have KW2 : Hid (Kept Nil w W2) := by rw [hv]; exact KW1.out.setT HnoA.out _ _
  rw [← hv]
  clear hv c1 f1 l1 hw1 HBW1 HRW1 KW1
  obtain ⟨q3, HQ2⟩ : ∃ q : Int, Hid (q = wrap64 (ot - 1) % (n : Int)) := ⟨_, rfl⟩
  obtain ⟨a2, b2⟩ : 0 ≤ q3 ∧ q3 < (n : Int) := by rw [HQ2.out]; exact pick_in _ _ (by omega)
  have P2 := pick_is (wrap64 (ot - 1)) (n : Int) q3 W2 (by omega) (by omega) HQ2.out
  have c2 : W2.cell? ⟨A, 2, none⟩ = some (.int .i64 ot) := blk_at HBW2.out 2 rfl
  have f2 : W2.frozen? ⟨A, 2, none⟩ = false := blk_free HBW2.out _
  have l2 : A < W2.heap.size := lt_of_block HBW2.out
  have hw2 : IntKind.i64.wrap (1 + q3) = 1 + q3 := IntWalk.i64_in _ (by omega)
  go_wp2_with fail
  go_fit P2
  rintro e _ ⟨rfl, hz⟩
  rw [hz]
  clear hz P2
  go_upto_region 4 with fail
  obtain ⟨W3, hv⟩ : ∃ V, V = W2.setCell ⟨A, 2, none⟩ (.int .i64 (1 + q3)) := ⟨_, rfl⟩
  have HBW3 : Hid (W3.heap[A]? = some (.cells (stB (1 + q1) (1 + q2) (1 + q3) nn ky up vl) 74 (0, 0))) := by rw [hv]; exact blk_set HBW2.out _ _
  have HRW3 : Hid (W3.heap[R]? = some (.cells (stB 0 0 0 0 [] [] []) 74 (0, 0))) := by rw [hv]; exact blk_other HRW2.out HNE.out _
  have KW3 : Hid (Kept Nil w W3) := by rw [hv]; exact KW2.out.setT HnoA.out _ _
  rw [← hv]
  clear hv c2 f2 l2 hw2 HBW2 HRW2 KW2
  obtain ⟨qk, HQk⟩ : ∃ q : Int, Hid (q = nn % 20) := ⟨_, rfl⟩
  obtain ⟨ak, bk⟩ : 0 ≤ qk ∧ qk < 20 := by rw [HQk.out]; exact pick_in _ _ (by omega)
  obtain ⟨k, rfl⟩ : ∃ k : Nat, qk = (k : Int) := ⟨qk.toNat, by omega⟩
  have hk20 : k < 20 := by omega
  obtain ⟨qu, HQu⟩ : ∃ q : Int, Hid (q = (up.length : Int) % 6) := ⟨_, rfl⟩
  obtain ⟨au, bu⟩ : 0 ≤ qu ∧ qu < 6 := by rw [HQu.out]; exact pick_in _ _ (by omega)
  have P4 := pick_is nn 20 (k : Int) W3 (by omega) (by omega) HQk.out
  have P5 := pick_is (up.length : Int) 6 qu W3 (by omega) (by omega) HQu.out
  have c3 : W3.cell? ⟨A, 3, none⟩ = some (.int .i64 nn) := blk_at HBW3.out 3 rfl
  have c4 : W3.cell? ⟨A, 4, none⟩ = some (.string (bs ky)) := blk_at HBW3.out 4 rfl
  have c5 : W3.cell? ⟨A, 5, none⟩ = some (.string (bs up)) := blk_at HBW3.out 5 rfl
  have c6 : W3.cell? ⟨A, 6, none⟩ = some (.string (bs vl)) := blk_at HBW3.out 6 rfl
  have f4 : W3.frozen? ⟨A, 4, none⟩ = false := blk_free HBW3.out _
  have f5 : W3.frozen? ⟨A, 5, none⟩ = false := blk_free HBW3.out _
  have l3 : A < W3.heap.size := lt_of_block HBW3.out
  go_wp2_with fail
  go_fit P4
  rintro e _ ⟨rfl, hz⟩
  rw [hz]
  clear hz P4
  go_wp2_with fail
  go_fit P5
  rintro e _ ⟨rfl, hz⟩
  rw [hz]
  clear hz P5
  obtain ⟨m, hm⟩ : ∃ m : Nat, (k : Int) + 1 + qu = (m : Int) := ⟨((k : Int) + 1 + qu).toNat, by omega⟩
  have hx := ltE hk20
  go_upto_region 8 with fail
  obtain ⟨W4, hv⟩ : ∃ V, V = (W3.setCell ⟨A, 4, none⟩ (.string (bs (lt k)))).setCell ⟨A, 5, none⟩ (.string ⟨#[]⟩) := ⟨_, rfl⟩
  have HBW4 : Hid (W4.heap[A]? = some (.cells (stB (1 + q1) (1 + q2) (1 + q3) nn (lt k) [] vl) 74 (0, 0))) := by rw [hv]; exact blk_set (blk_set HBW3.out _ _) _ _
  have HRW4 : Hid (W4.heap[R]? = some (.cells (stB 0 0 0 0 [] [] []) 74 (0, 0))) := by rw [hv]; exact blk_other (blk_other HRW3.out HNE.out _) HNE.out _
  have KW4 : Hid (Kept Nil w W4) := by rw [hv]; exact (KW3.out.setT HnoA.out _ _).setT HnoA.out _ _
  have HTm : Hid (∀ up' vl', isU up' → vl'.length ≤ 9 → Tame n ⟨1 + q1, 1 + q2, 1 + q3, nn, lt k, up', vl'⟩) := fun up' vl' hu hv' =>
    ⟨⟨by show 1 ≤ 1 + q1; omega, by show 1 + q1 ≤ 8; omega⟩, ⟨q2.toNat, by omega, by show 1 + q2 = _; omega⟩, ⟨q3.toNat, by omega, by show 1 + q3 = _; omega⟩, ⟨k, hk20, rfl⟩, hu, hv'⟩
  rw [← hv]
  have hm26 : m ≤ 26 := by omega
  clear hv c3 c4 c5 c6 f4 f5 l3 HBW3 HRW3 KW3 hx hm
  go_upto_if 44 with fail
  go_cut [] (fun w5 => ∃ upX vlX : List UInt8, Hid (isU upX ∧ vlX.length ≤ 9223372036854775807) ∧ Hid (w5.heap[A]? = some (.cells (stB (1 + q1) (1 + q2) (1 + q3) nn (lt k) upX vlX) 74 (0, 0))) ∧ Hid (w5.heap[R]? = some (.cells (stB 0 0 0 0 [] [] []) 74 (0, 0))) ∧ Hid (Kept Nil w w5))
  case first =>
    have c5 : W4.cell? ⟨A, 5, none⟩ = some (.string (bs [])) := blk_at HBW4.out 5 rfl
    have f5 : W4.frozen? ⟨A, 5, none⟩ = false := blk_free HBW4.out _
    have l5 : A < W4.heap.size := lt_of_block HBW4.out
    have hvl : vl.length ≤ 9223372036854775807 := hl.2
    by_cases hlt : m < 20
    · have hmi : (m : Int) < 20 := by omega
      have hx := ltE hlt
      go_wp2
      go_meet
      exact ⟨lt m, vl, ⟨.inr ⟨m, hlt, rfl⟩, hvl⟩, blk_set HBW4.out _ _, blk_other HRW4.out HNE.out _, KW4.out.setT HnoA.out _ _⟩
    · have hmi : ¬ (m : Int) < 20 := by omega
      go_wp2
      go_meet
      exact ⟨[], vl, ⟨.inl rfl, hvl⟩, HBW4.out, HRW4.out, KW4.out⟩
  case rest =>
    rename World => W5
    obtain ⟨up5, vl5, HU5, HBW5, HRW5, KW5⟩ := hcut
    obtain ⟨hu5, hv5⟩ := HU5.out
    have hl5 := hu5.len
    have HUU : Hid (isU up5) := hu5
    clear HU5 hu5 HBW4 HRW4 KW4
    apply_assumption
    obtain ⟨q8, HQ8⟩ : ∃ q : Int, Hid (q = wrap64 ((up5.length : Int) + vl5.length) % 9) := ⟨_, rfl⟩
    obtain ⟨a8, b8⟩ : 0 ≤ q8 ∧ q8 < 9 := by rw [HQ8.out]; exact pick_in _ _ (by omega)
    have P8 := pick_is (wrap64 ((up5.length : Int) + vl5.length)) 9 q8 W5 (by omega) (by omega) HQ8.out
    have v5 : W5.cell? ⟨A, 5, none⟩ = some (.string (bs up5)) := blk_at HBW5.out 5 rfl
    have v6 : W5.cell? ⟨A, 6, none⟩ = some (.string (bs vl5)) := blk_at HBW5.out 6 rfl
    have g5 : W5.frozen? ⟨A, 5, none⟩ = false := blk_free HBW5.out _
    have m5 : A < W5.heap.size := lt_of_block HBW5.out
    have z5 : (bs up5).size = up5.length := bs_size _
    have z6 : (bs vl5).size = vl5.length := bs_size _
    go_wp2_with fail
    go_fit P8
    rintro e _ ⟨rfl, hz⟩
    rw [hz]
    clear hz P8
    go_upto_if 58 with fail
    go_cut [] (fun w5 => ∃ upX vlX : List UInt8, Hid (isU upX ∧ vlX.length ≤ 9223372036854775807) ∧ Hid (w5.heap[A]? = some (.cells (stB (1 + q1) (1 + q2) (1 + q3) nn (lt k) upX vlX) 74 (0, 0))) ∧ Hid (w5.heap[R]? = some (.cells (stB 0 0 0 0 [] [] []) 74 (0, 0))) ∧ Hid (Kept Nil w w5))
    case first =>
      by_cases h8 : q8 = 8
      · subst h8
        go_wp2
        go_meet
        exact ⟨lt 0, vl5, ⟨.inr ⟨0, by omega, rfl⟩, hv5⟩, blk_set HBW5.out _ _, blk_other HRW5.out HNE.out _, KW5.out.setT HnoA.out _ _⟩
      · have n8 : (q8 == 8) = false := by simpa using h8
        go_wp2
        go_meet
        exact ⟨up5, vl5, ⟨HUU.out, hv5⟩, HBW5.out, HRW5.out, KW5.out⟩
    case rest =>
      rename World => W6
      obtain ⟨up6, vl6, HU6, HBW6, HRW6, KW6⟩ := hcut
      obtain ⟨hu6, hv6⟩ := HU6.out
      have HUV : Hid (isU up6) := hu6
      clear HU6 hu6 HBW5 HRW5 KW5 v5 v6 g5 m5 z5 z6
      apply_assumption
      have v6 : W6.cell? ⟨A, 6, none⟩ = some (.string (bs vl6)) := blk_at HBW6.out 6 rfl
      have g6 : W6.frozen? ⟨A, 6, none⟩ = false := blk_free HBW6.out _
      have m6 : A < W6.heap.size := lt_of_block HBW6.out
      have z6 : (bs vl6).size = vl6.length := bs_size _
      go_upto_if 63 with fail
      go_cut [] (fun w5 => ∃ upX vlX : List UInt8, Hid (isU upX ∧ vlX.length ≤ 9) ∧ Hid (w5.heap[A]? = some (.cells (stB (1 + q1) (1 + q2) (1 + q3) nn (lt k) upX vlX) 74 (0, 0))) ∧ Hid (w5.heap[R]? = some (.cells (stB 0 0 0 0 [] [] []) 74 (0, 0))) ∧ Hid (Kept Nil w w5))
      case first =>
        by_cases hlong : 9 < vl6.length
        · have hi : (vl6.length : Int) > 9 := by omega
          have hi2 : (9 : Int) < vl6.length := by omega
          have hi3 : (9 : Int) ≤ vl6.length := by omega
          have he : (bs vl6).extract 0 9 = bs (vl6.take 9) := bs_take vl6 9
          go_wp2
          go_meet
          exact ⟨up6, vl6.take 9, ⟨HUV.out, by rw [List.length_take]; omega⟩, blk_set HBW6.out _ _, blk_other HRW6.out HNE.out _, KW6.out.setT HnoA.out _ _⟩
        · have hi : ¬ (vl6.length : Int) > 9 := by omega
          have hi2 : ¬ (9 : Int) < vl6.length := by omega
          go_wp2
          go_meet
          exact ⟨up6, vl6, ⟨HUV.out, by omega⟩, HBW6.out, HRW6.out, KW6.out⟩
      case rest =>
        rename World => W7
        obtain ⟨up7, vl7, HU7, HBW7, HRW7, KW7⟩ := hcut
        clear HBW6 HRW6 KW6 v6 g6 m6 z6
        apply_assumption
        go_wp2_with (first | ((with_reducible refine atLoad 74 ?_); go_must (refine wpList_loadW rfl _ _ rfl _ rfl _ _ _ HBW7.out Try.underlying74 rfl Try.sizeSt rfl ?_)) | ((with_reducible refine atStore 74 ?_); go_must (refine wpList_storeW rfl _ _ _ rfl _ (stB (1 + q1) (1 + q2) (1 + q3) nn (lt k) up7 vl7) _ _ rfl rfl HRW7.out rfl Try.sizeSt rfl (stB_one _ _ _ _ _ _ _) ?_); intro w9 hb9 hk9 hs9))
        refine bodyPost_ret (results_cellW rfl rfl hb9 Try.underlying74 rfl Try.sizeSt rfl) rfl ?_
        exact ⟨⟨⟨1 + q1, 1 + q2, 1 + q3, nn, lt k, up7, vl7⟩, rfl, HTm.out up7 vl7 HU7.out.1 HU7.out.2⟩, KW7.out.oneN hk9 (by have := HR.out; omega)⟩
end Go.Proofs.Ytpfgnhockfofhaa
