/-
  Lists of entries, read and written by wire's reader and writer; flags.
-/
import Derived.Test.YtijklginabipgaaWTabR
import Derived.Test.YtijklginabipgaaWOls
import Derived.Test.YtijklginabipgaaWLog1
namespace Go.Proofs.Ytijklginabipgaa
open Go.RowKit

theorem rEn_ok {p : Addr} {l t : List UInt8} {s : En} {w : World} (hl : Left p w l) (hr : rdEnt l = .ok (s, t)) :
    Calls Try.prog 87 #[.pointer (some p)] w fun e w' => e = .returned (.agg #[.int .i64 s.ix, .int .i64 s.tm, .int .i64 s.kd, .string (bs s.dt)]) ∧ w'.cell? p = some (.string (bs t)) ∧ w'.frozen? p = false ∧ Kept (One p.block) w w' := by
  refine (RdPost.ok (rEntry_any p l w hl) hr).mono ?_
  rintro e w' ⟨v, rfl, rfl, h⟩
  exact ⟨rfl, h⟩
theorem rEn_no {p : Addr} {l : List UInt8} {c : Int} {w : World} (hl : Left p w l) (hr : rdEnt l = .error c) :
    Calls Try.prog 87 #[.pointer (some p)] w fun e w' => e = .panicked (up c) ∧ Kept (One p.block) w w' := RdPost.no (rEntry_any p l w hl) hr
theorem enCells_snocM (ns : List En) (n : En) : enCells (ns ++ [n]) = enCells ns ++ [.int .i64 n.ix, .int .i64 n.tm, .int .i64 n.kd, .string (bs n.dt)] := by simp [enCells]
def EnsV (B : Nat) : List En → World → Value → Prop := fun ns w v => ∃ ao c, v = .slice ao ns.length c ∧ OwnEs B w ao c ns
theorem Try.infoEnM : (Try.prog.info? 52).map (fun i => (i.zero, i.size, i.bytes)) = some (some (.agg #[.int .i64 0, .int .i64 0, .int .i64 0, .string ⟨#[]⟩]), 4, 40) := by kernel_rfl
theorem src_enM {w : World} (z : En) : Src Try.prog 4 83 (.slice (some ⟨w.heap.size, 0, none⟩) 1 1) 1 [.int .i64 z.ix, .int .i64 z.tm, .int .i64 z.kd, .string (bs z.dt)] (w.alloc (.cells #[.int .i64 z.ix, .int .i64 z.tm, .int .i64 z.kd, .string (bs z.dt)] 52)) := by
  refine Src.ofSlice _ Try.underlying83 _ 1 1 _ rfl ?_ ?_
  · intro j u hj
    match j, hj with
    | 0, hj =>
      simp at hj
      subst hj
      simp [Addr.add]
    | 1, hj =>
      simp at hj
      subst hj
      simp [Addr.add]
    | 2, hj =>
      simp at hj
      subst hj
      simp [Addr.add]
    | 3, hj =>
      simp at hj
      subst hj
      simp [Addr.add]
  · intro u hu
    simp at hu
    rcases hu with rfl | rfl | rfl | rfl <;> rfl
theorem OwnEs.pushM {B : Nat} {w' : World} {ao : Option Addr} {c : Nat} {ns : List En} {n : En} (h : w'.ownsRow B 52 4 (.slice ao (ns.length + 1) c) (ns.length + 1) (enCells ns ++ [.int .i64 n.ix, .int .i64 n.tm, .int .i64 n.kd, .string (bs n.dt)])) : OwnEs B w' ao c (ns ++ [n]) := by
  unfold OwnEs
  rw [enCells_snocM, List.length_append]
  exact h

set_option maxRecDepth 100000 in
set_option maxHeartbeats 1000000 in
theorem timesEn_any (p : Addr) (n : Nat) (l : List UInt8) (w : World) (hl : Left p w l) (hn : (n : Int) ≤ 1000000) :
    Calls Try.prog 211 #[.pointer (some p), .int .i64 n, .func (.func 87) #[] #[]] w (RdPost p w (rdTimes rdEnt n l) (EnsV w.heap.size)) := by
  obtain ⟨i0, hi, hz0, hz1, hz2⟩ := info_parts Try.infoEnM
  have HP : Hid (p.block < w.heap.size) := cell_lt hl.cell
  go_enter Try.func211, Try.ntmps211
  go_wp2
  go_loopw [7, 9] (fun v i wr => ∃ k : Nat, ∃ xs : List En, ∃ t : List UInt8, ∃ ao c, k ≤ n ∧ i = .int .i64 k ∧ Hid (xs.length = k) ∧ v = .slice ao xs.length c ∧ Hid (OwnEs w.heap.size wr ao c xs) ∧ Hid (rdTimes rdEnt n l = preT xs (rdTimes rdEnt (n - k) t)) ∧ Left p wr t ∧ Hid (Kept (One p.block) w wr)) (fun _ i _ => n - (intOf i).toNat)
  case atStart => exact ⟨0, [], l, none, 0, by omega, rfl, rfl, rfl, World.ownsRow_nil _ _ _ _, (preT_nil _).symm, hl, Kept.refl _ _⟩
  case round =>
    obtain ⟨k, xs, t, ao, c, hk, rfl, HA, rfl, HO, HE, hl', HK⟩ := hrel
    clear hl
    by_cases hkn : k < n
    · cases hr : rdEnt t with
      | error e0 =>
        have HR : Hid (rdTimes rdEnt n l = .error e0) := by
          show rdTimes rdEnt n l = _
          rw [HE.out, show n - k = (n - k - 1) + 1 by omega]
          exact rdTimes_no hr
        go_wp2_with (go_at_call 87; refine (rEn_no hl' hr).mono ?_; rintro e w' ⟨rfl, hk'⟩)
        unfold bodyPost RdPost
        rw [HR.out]
        exact ⟨rfl, rfl, HK.out.trans hk'⟩
      | ok r =>
        obtain ⟨a, u⟩ := r
        have HR : Hid (rdTimes rdEnt n l = preT (xs ++ [a]) (rdTimes rdEnt (n - (k + 1)) u)) := by
          show rdTimes rdEnt n l = _
          rw [HE.out, show n - k = (n - (k + 1)) + 1 by omega]
          exact rdTimes_more hr
        have HLL : Hid (xs.length + 1 ≤ maxLen ∧ (xs.length + 1) * 40 ≤ 140737488355328) := by
          have := HA.out
          constructor
          · unfold maxLen; omega
          · omega
        have N := rEn_ok hl' hr
        clear hr hl'
        go_wp2_with (first | (go_at_call 87; refine N.mono ?_; rintro e w' ⟨rfl, hc', hz', hk'⟩; have HL' : Hid (Left p w' u) := ⟨hc', hz'⟩; have HK' : Hid (Kept (One p.block) w w') := HK.out.trans hk'; have ho : w'.ownsRow w.heap.size 52 4 (.slice ao xs.length c) xs.length (enCells xs) := own_kept HO.out hk' (fun k cs hb hx => by have := HP.out; have : k = p.block := hx; omega); clear hc' hz' hk') | (at_builtin; go_must (refine wpList_append_src _ rfl _ _ 83 83 rfl w.heap.size 52 i0 (.agg #[.int .i64 0, .int .i64 0, .int .i64 0, .string ⟨#[]⟩]) 4 40 Try.underlying83 hi hz0 hz1 hz2 rfl _ _ _ rfl (ho.alloc _) (.slice (some ⟨w'.heap.size, 0, none⟩) 1 1) 1 [.int .i64 a.ix, .int .i64 a.tm, .int .i64 a.kd, .string (bs a.dt)] rfl (src_enM _) HLL.out.1 HLL.out.2 (le_alloc HK'.out.size _) ?_); intro ao' c' w1 ho' hg'; have HL1 : Hid (Left p w1 u) := by { have h1 := HL'.out.alloc (.cells #[.int .i64 a.ix, .int .i64 a.tm, .int .i64 a.kd, .string (bs a.dt)] 52); have hne : some p.block ≠ (Value.slice ao xs.length c).ownBlock := (fun e => by have := (ho.lt _ e.symm).1; have := HP.out; omega); have hb := hg'.block p.block (cell_lt h1.cell) hne; exact ⟨(World.cell?_of_block hb).trans h1.cell, (World.frozen?_of_block hb).trans h1.free⟩ }; have HK1 : Hid (Kept (One p.block) w w1) := (HK'.out.alloc _).grown hg' (own_row ho); clear hg'))
        go_roundw
        case rel => exact ⟨k + 1, xs ++ [a], u, ao', c', by omega, by go_num, by have := HA.out; show (xs ++ [a]).length = k + 1; simp; omega, by rw [List.length_append]; rfl, OwnEs.pushM ho', HR, HL1.out, HK1.out⟩
        case measure => simp [intOf]; omega
    · have HR : Hid (rdTimes rdEnt n l = .ok (xs, t)) := by
        show rdTimes rdEnt n l = _
        rw [HE.out, show n - k = 0 by omega]
        simp [rdTimes, preT]
      go_wp2
      go_ret
      unfold RdPost
      rw [HR.out]
      exact ⟨⟨_, rfl, ao, c, rfl, HO.out⟩, hl', HK.out⟩

/-- A count, and so many numbers. -/
def rdEns (most : Nat) (l : List UInt8) : Except Int (List En × List UInt8) := rdThen (rdUpTo most l) fun n l => rdTimes rdEnt n l

theorem ensV_mono {B B' : Nat} {ns : List En} {w : World} {v : Value} (h : EnsV B ns w v) (hb : B' ≤ B) : EnsV B' ns w v := by
  obtain ⟨ao, c, rfl, ho⟩ := h
  exact ⟨ao, c, rfl, own_mono ho hb⟩

set_option maxRecDepth 100000 in
set_option maxHeartbeats 1000000 in
theorem listEn_any (p : Addr) (most : Nat) (l : List UInt8) (w : World) (hl : Left p w l) (hm : (most : Int) ≤ 1000000) :
    Calls Try.prog 182 #[.pointer (some p), .int .i64 most, .func (.func 87) #[] #[]] w (RdPost p w (rdEns most l) (EnsV w.heap.size)) := by
  cases r1 : rdUpTo most l with
  | error c =>
    have HR : Hid (rdEns most l = .error c) := rdThen_no r1
    go_enter Try.func182, Try.ntmps182
    go_wp2_with fail
    refine (upTo_no hl r1).mono ?_
    rintro e w1 ⟨rfl, k1⟩
    go_wp2
    unfold bodyPost RdPost
    rw [HR.out]
    exact ⟨rfl, rfl, k1⟩
  | ok x1 =>
    obtain ⟨n, l1⟩ := x1
    have hn := (rdUpTo_ok r1).1
    have hn' : (n : Int) ≤ 1000000 := by omega
    have HR : Hid (rdEns most l = rdTimes rdEnt n l1) := rdThen_ok r1
    clear hm
    cases r2 : rdTimes rdEnt n l1 with
    | error c =>
      go_enter Try.func182, Try.ntmps182
      go_wp2_with fail
      refine (upTo_ok hl r1).mono ?_
      rintro e w1 ⟨rfl, c1, z1, k1⟩
      go_wp2_with fail
      refine (RdPost.no (timesEn_any p n l1 w1 ⟨c1, z1⟩ hn') r2).mono ?_
      rintro e w2 ⟨rfl, k2⟩
      go_wp2
      unfold bodyPost RdPost
      rw [HR.out, r2]
      exact ⟨rfl, rfl, k1.trans k2⟩
    | ok x2 =>
      obtain ⟨ns, l2⟩ := x2
      go_enter Try.func182, Try.ntmps182
      go_wp2_with fail
      refine (upTo_ok hl r1).mono ?_
      rintro e w1 ⟨rfl, c1, z1, k1⟩
      go_wp2_with fail
      refine (RdPost.ok (timesEn_any p n l1 w1 ⟨c1, z1⟩ hn') r2).mono ?_
      rintro e w2 ⟨v, rfl, hv, c2, z2, k2⟩
      go_wp2
      go_ret
      unfold RdPost
      rw [HR.out, r2]
      exact ⟨⟨_, rfl, ensV_mono hv k1.size⟩, ⟨c2, z2⟩, k1.trans k2⟩


/-! ### written -/
def encEn (x : En) : List UInt8 := encEnt x.ix.toNat x.tm.toNat x.kd.toNat x.dt
theorem encEn_len {x : En} (h : x.ok = true) : (encEn x).length ≤ 280 := by
  obtain ⟨h1, h2, h3, h4⟩ := En.facts h
  have e1 := (isCnt_nat h1).2
  have e2 := (isCnt_nat h2).2
  unfold encEn encEnt
  rw [List.length_append]
  have a := encAll_len [x.ix.toNat, x.tm.toNat, x.kd.toNat] (by intro n hn; simp at hn; omega)
  have b := encText_len (l := x.dt) (by omega)
  simp at a
  omega
theorem wEn_any (b : Nat) (x : En) (l : List UInt8) (w : World) (h : WInv b w l) (hx : x.ok = true) (hl : l.length ≤ 10000000000) :
    Calls Try.prog 83 #[.pointer (some ⟨b, 0, none⟩), .agg #[.int .i64 x.ix, .int .i64 x.tm, .int .i64 x.kd, .string (bs x.dt)]] w fun e w' => e = .returned (.tuple #[]) ∧ WInv b w' (l ++ encEn x) ∧ Kept (Wr b) w w' := by
  obtain ⟨h1, h2, h3, h4⟩ := En.facts hx
  have e1 := isCnt_nat h1
  have e2 := isCnt_nat h2
  have e3 : (x.kd.toNat : Int) = x.kd := by omega
  have H := wEntry_any b x.ix.toNat x.tm.toNat x.kd.toNat x.dt l w h e1.2 e2.2 (by omega) h4 hl
  rw [e1.1, e2.1, e3] at H
  exact H

set_option maxRecDepth 100000 in
set_option maxHeartbeats 2000000 in
theorem putListEn_any (b B cap : Nat) (ao : Option Addr) (ps : List En) (l : List UInt8) (w : World) (h : WInv b w l) (hr : EntRow B w ao ps) (hB : B ≤ b)
    (hn : ∀ p ∈ ps, p.ok = true) (hnl : ps.length ≤ 8) (hl : l.length ≤ 1000000000) :
    Calls Try.prog 179 #[.pointer (some ⟨b, 0, none⟩), .slice ao ps.length cap, .func (.func 83) #[] #[]] w fun e w' => e = .returned (.tuple #[]) ∧ WInv b w' (l ++ encList encEn ps) ∧ Kept (Wr b) w w' := by
  have HR : Hid (EntRow B w ao ps) := hr
  have HN : Hid (∀ p ∈ ps, p.ok = true) := hn
  have HL : Hid (l.length ≤ 1000000000 ∧ B ≤ b) := ⟨hl, hB⟩
  have N0 := wNumber_any b ps.length l w h (by omega) (by omega)
  have hnl' : (ps.length : Int) ≤ 8 := by omega
  have HE0 : Hid ((enc ps.length).length ≤ 6) := enc_len6 (by omega)
  clear hr hn hl hB h
  go_enter Try.func179, Try.ntmps179
  go_wp2_with fail
  refine N0.mono ?_
  rintro e w1 ⟨rfl, i1, k1⟩
  have HK1 : Hid (Kept (Wr b) w w1) := k1
  have HI1 : Hid (WInv b w1 (l ++ enc ps.length)) := i1
  clear i1 k1 N0
  go_wp2
  go_loopw [14] (fun i wr => ∃ k : Nat, k ≤ ps.length ∧ i = .int .i64 k ∧ Hid (WInv b wr ((l ++ enc ps.length) ++ catAll encEn (ps.take k))) ∧ Hid (Kept (Wr b) w wr)) (fun i _ => ps.length - (intOf i).toNat)
  case atStart => exact ⟨0, Nat.zero_le _, rfl, by show WInv _ _ _; simpa [catAll] using HI1.out, HK1.out⟩
  case round =>
    obtain ⟨k, hk, rfl, HI, HK⟩ := hrel
    clear HI1 HK1
    by_cases hlt : k < ps.length
    · obtain ⟨a, rfl, _, hc0, hc1, hc2, hc3, _⟩ := (HR.out.kept HK.out (fun _ _ h => not_below HL.out.2 h)) k hlt
      have hfine := HN.out ps[k] (List.getElem_mem hlt)
      have HE : Hid (((l ++ enc ps.length) ++ catAll encEn (ps.take k)) ++ encEn ps[k] = (l ++ enc ps.length) ++ catAll encEn (ps.take (k + 1))) := by
        show _ = _
        rw [catAll_step encEn hlt, List.append_assoc, List.append_assoc]
      have HLE : Hid (((l ++ enc ps.length) ++ catAll encEn (ps.take k)).length ≤ 2000000000) := by
        have h1 := catAll_le encEn 280 (ps.take k) (fun x hx => encEn_len (HN.out x (List.mem_of_mem_take hx)))
        have h2 := HL.out.1
        have h3 := HE0.out
        show _ ≤ _
        simp only [List.length_append, List.length_take] at h1 ⊢
        omega
      have H := wEn_any b ps[k] _ _ (HI.out.alloc (.cells #[.int .i64 ps[k].ix, .int .i64 ps[k].tm, .int .i64 ps[k].kd, .string (bs ps[k].dt)] 52)) hfine (by have := HLE.out; omega)
      rw [HE.out] at H
      generalize ps[k].ix = eix at *
      generalize ps[k].tm = etm at *
      generalize ps[k].kd = ekd at *
      generalize ps[k].dt = edt at *
      clear HI HE HLE hfine
      go_wp2_with fail
      refine H.mono ?_
      rintro e w' ⟨rfl, i', k'⟩
      have HK' : Hid (Kept (Wr b) w w') := (HK.out.alloc _).trans k'
      have HI' : Hid (WInv b w' ((l ++ enc ps.length) ++ catAll encEn (ps.take (k + 1)))) := i'
      clear i' k'
      go_wp2
      go_roundw
      case rel => exact ⟨k + 1, by omega, by go_num, HI'.out, HK'.out⟩
      case measure => simp [intOf]; omega
    · have HI2 : Hid (WInv b wr (l ++ encList encEn ps)) := by
        show WInv _ _ _
        have := HI.out
        rw [List.take_of_length_le (by omega), List.append_assoc] at this
        exact this
      go_wp2
      go_end0
      exact ⟨rfl, HI2.out, HK.out⟩

/-! ### flags -/
def rdFlag (l : List UInt8) : Except Int (Bool × List UInt8) :=
  match l with
  | [] => .error 3
  | c :: t => if c.toNat ≤ 1 then .ok (c.toNat == 1, t) else .error 1
def BoolV : Bool → World → Value → Prop := fun b _ v => v = .bool b
set_option maxRecDepth 100000 in
set_option maxHeartbeats 1000000 in
theorem rFlag_any (p : Addr) (l : List UInt8) (w : World) (hl : Left p w l) :
    Calls Try.prog 181 #[.pointer (some p)] w (RdPost p w (rdFlag l) BoolV) := by
  obtain ⟨hcc, hzz⟩ := hl
  cases l with
  | nil =>
    have HR : Hid (rdFlag [] = .error 3) := rfl
    go_enter Try.func181, Try.ntmps181
    go_wp2_with (go_at_call 186; refine (take_no p [] 1 _ hcc hzz (by simp)).mono ?_; rintro e w' ⟨rfl, rfl⟩)
    unfold bodyPost RdPost
    rw [HR.out]
    exact ⟨rfl, rfl, Kept.refl _ _⟩
  | cons c t =>
    have h1 : (bs [c]).size = 1 := by rw [bs_size]; rfl
    have h2 : ∀ h, ((bs [c])[0]'h) = c := fun h => by rw [bs_at]; rfl
    have HP : Hid (Kept (One p.block) w (w.setCell p (.string (bs t))) ∧ Left p (w.setCell p (.string (bs t))) t) := ⟨(Kept.refl _ _).setCell (fun _ => rfl) _, Left.set ⟨hcc, hzz⟩ t⟩
    by_cases hb : c.toNat ≤ 1
    · have HR : Hid (rdFlag (c :: t) = .ok (c.toNat == 1, t)) := by show rdFlag _ = _; simp [rdFlag, hb]
      have hb' : (c.toNat : Int) ≤ 1 := by omega
      have HQ : Hid (∀ x : Nat, ((x : Int) == 1) = (x == 1)) := by show ∀ x : Nat, _ = _; intro x; rw [Bool.eq_iff_iff]; simp; omega
      clear hb
      go_enter Try.func181, Try.ntmps181
      go_wp2_with (first | (go_at_call 186; refine (take_ok p (c :: t) 1 _ hcc hzz (by simp)).mono ?_; rintro e w' ⟨rfl, rfl⟩) | (go_at_call 145; refine (must_ok _ _).mono ?_; rintro e w' ⟨rfl, rfl⟩))
      go_ret
      unfold RdPost
      rw [HR.out]
      exact ⟨⟨_, rfl, congrArg Value.bool (HQ.out _)⟩, HP.out.2, HP.out.1⟩
    · have HR : Hid (rdFlag (c :: t) = .error 1) := by show rdFlag _ = _; simp [rdFlag]; omega
      have hb' : decide ((c.toNat : Int) ≤ 1) = false := by simp; omega
      clear hb
      go_enter Try.func181, Try.ntmps181
      go_wp2_with (first | (go_at_call 186; refine (take_ok p (c :: t) 1 _ hcc hzz (by simp)).mono ?_; rintro e w' ⟨rfl, rfl⟩) | (go_at_call 145; refine (must_no _ _).mono ?_; rintro e w' ⟨rfl, rfl⟩))
      unfold bodyPost RdPost
      rw [HR.out]
      exact ⟨rfl, rfl, HP.out.1⟩
theorem rFlag_ok {p : Addr} {l t : List UInt8} {b : Bool} {w : World} (hl : Left p w l) (hr : rdFlag l = .ok (b, t)) :
    Calls Try.prog 181 #[.pointer (some p)] w fun e w' => e = .returned (.bool b) ∧ w'.cell? p = some (.string (bs t)) ∧ w'.frozen? p = false ∧ Kept (One p.block) w w' := by
  refine (RdPost.ok (rFlag_any p l w hl) hr).mono ?_
  rintro e w' ⟨v, rfl, rfl, h⟩
  exact ⟨rfl, h⟩
def encFlag (b : Bool) : List UInt8 := if b then [1] else [0]
theorem rdFlag_strict {l t : List UInt8} {b : Bool} (h : rdFlag l = .ok (b, t)) : l = encFlag b ++ t := by
  cases l with
  | nil => cases h
  | cons c u =>
    by_cases hb : c.toNat ≤ 1
    · simp only [rdFlag, hb, if_true, Except.ok.injEq, Prod.mk.injEq] at h
      obtain ⟨rfl, rfl⟩ := h
      rcases (show c.toNat = 0 ∨ c.toNat = 1 by omega) with h0 | h0
      · have : c = 0 := UInt8.toNat_inj.1 h0
        subst this; rfl
      · have : c = 1 := UInt8.toNat_inj.1 h0
        subst this; rfl
    · simp only [rdFlag, hb, if_false] at h
      cases h

set_option maxRecDepth 100000 in
set_option maxHeartbeats 1000000 in
theorem wFlag_any (b : Nat) (f : Bool) (l : List UInt8) (w : World) (h : WInv b w l) (hl : l.length ≤ 1099511627775) :
    Calls Try.prog 178 #[.pointer (some ⟨b, 0, none⟩), .bool f] w fun e w' => e = .returned (.tuple #[]) ∧ WInv b w' (l ++ encFlag f) ∧ Kept (Wr b) w w' := by
  obtain ⟨i0, hi, hz0, hz1, hz2⟩ := info_parts Try.infoByte
  obtain ⟨ao, c, hb, ho⟩ := h
  have h0 : w.cell? ⟨b, 0, none⟩ = some (.slice ao l.length c) := blk_cell hb 0
  have f0 := blk_free hb 0
  have HLL : Hid (l.length + 1 ≤ maxLen ∧ (l.length + 1) * 1 ≤ 140737488355328) := by
    constructor
    · unfold maxLen; omega
    · omega
  have HB : Hid (b + 1 ≤ w.heap.size) := lt_of_block hb
  clear hl
  cases f with
  | true =>
    have HX : Hid ((1 : Int) = (1 : UInt8).toNat) := rfl
    go_enter Try.func178, Try.ntmps178
    go_wp2_with (first | (at_builtin; go_must (refine wpList_append_src _ rfl _ _ 180 180 rfl (b + 1) 5 i0 (.int .u8 0) 1 1 Try.underlying180 hi hz0 hz1 hz2 rfl _ _ _ rfl (ho.alloc _) (.slice (some ⟨w.heap.size, 0, none⟩) 1 1) 1 (cellsOf [1]) rfl (src_one 1 HX.out) HLL.out.1 HLL.out.2 (le_alloc HB.out _) ?_); intro ao' c' w1 ho' hg'; have hb1 := after_grow (blk_past hb _) (ho.alloc _) hg'; have h1 : w1.cell? ⟨b, 0, none⟩ = some (.slice ao l.length c) := blk_cell hb1 0; have f1 := blk_free hb1 0; have HP : Hid _ := WInv.put (m := 1) (news := [1]) (blk_past hb _) (ho.alloc _) rfl ho' hg'; clear ho' hg' hb1))
    refine bodyPost_ret (results_none rfl _ _ _) rfl ?_
    exact ⟨rfl, HP.out.1, (((Kept.refl _ _).alloc _).trans HP.out.2)⟩
  | false =>
    have HX : Hid ((0 : Int) = (0 : UInt8).toNat) := rfl
    go_enter Try.func178, Try.ntmps178
    go_wp2_with (first | (at_builtin; go_must (refine wpList_append_src _ rfl _ _ 180 180 rfl (b + 1) 5 i0 (.int .u8 0) 1 1 Try.underlying180 hi hz0 hz1 hz2 rfl _ _ _ rfl (ho.alloc _) (.slice (some ⟨w.heap.size, 0, none⟩) 1 1) 1 (cellsOf [0]) rfl (src_one 0 HX.out) HLL.out.1 HLL.out.2 (le_alloc HB.out _) ?_); intro ao' c' w1 ho' hg'; have hb1 := after_grow (blk_past hb _) (ho.alloc _) hg'; have h1 : w1.cell? ⟨b, 0, none⟩ = some (.slice ao l.length c) := blk_cell hb1 0; have f1 := blk_free hb1 0; have HP : Hid _ := WInv.put (m := 1) (news := [0]) (blk_past hb _) (ho.alloc _) rfl ho' hg'; clear ho' hg' hb1))
    go_end0
    exact ⟨rfl, HP.out.1, (((Kept.refl _ _).alloc _).trans HP.out.2)⟩

end Go.Proofs.Ytijklginabipgaa
