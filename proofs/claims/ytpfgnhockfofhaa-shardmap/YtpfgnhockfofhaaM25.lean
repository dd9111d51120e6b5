/-
  Joined: WShJ, WShK, WShL.
-/
import Derived.Test.YtpfgnhockfofhaaM22
import Derived.Test.YtpfgnhockfofhaaM24
/-
  Shards: a packet comes to its host.
-/
namespace Go.Proofs.Ytpfgnhockfofhaa
open Go.RowKit

theorem round_mod (n : Int) (m : Nat) (hm : 0 < m) : (n.tmod m < 0 → n.tmod m + m = (atW n m : Int)) ∧ (¬ n.tmod m < 0 → n.tmod m = (atW n m : Int)) := by
  have h := @Int.tmod_eq_emod n m
  have h1 := Int.emod_nonneg n (show (m : Int) ≠ 0 by omega)
  have h2 := Int.emod_lt_of_pos n (show (0 : Int) < m by omega)
  have h3 : ((m : Int).natAbs : Int) = m := by omega
  have h5 : (atW n m : Int) = n % m := by unfold atW; omega
  rw [h5]
  split at h <;> constructor <;> intro h4 <;> omega
theorem atW_lt (n : Int) {m : Nat} (hm : 0 < m) : atW n m < m := by
  have h1 := Int.emod_nonneg n (show (m : Int) ≠ 0 by omega)
  have h2 := Int.emod_lt_of_pos n (show (0 : Int) < m by omega)
  unfold atW
  omega
set_option maxRecDepth 100000 in
set_option maxHeartbeats 1000000 in
theorem round_any (n : Int) (m : Nat) (w : World) (hm : 0 < m) (hl : m ≤ 1000000000) :
    Calls Try.prog 46 #[.int .i64 n, .int .i64 m] w fun e w' => e = .returned (.int .i64 (atW n m)) ∧ w' = w := by
  obtain ⟨h1, h2⟩ := round_mod n m hm
  have hlt := atW_lt n hm
  have hm0 : ¬ (m : Int) = 0 := by omega
  have hb1 : n.tmod m < m := Int.tmod_lt_of_pos n (by omega)
  have hb2 : -(m : Int) < n.tmod m := by
    have := Int.tmod_lt_of_pos (-n) (show (0 : Int) < m by omega)
    rw [Int.neg_tmod] at this
    omega
  obtain ⟨z, HZ⟩ : ∃ z : Nat, Hid (z = atW n m) := ⟨_, rfl⟩
  rw [← HZ.out] at h1 h2 hlt ⊢
  generalize hq : n.tmod m = q at *
  have HQ : Hid (n.tmod m = q) := hq
  by_cases hneg : q < 0
  · have h3 := h1 hneg
    have hw : IntKind.i64.wrap (q + (m : Int)) = (z : Int) := by rw [h3, IntKind.wrap_i64]; omega
    clear h1 h2 h3
    go_enter Try.func46, Try.ntmps46
    go_wp2
    go_ret
    exact ⟨rfl, rfl⟩
  · have h3 := h2 hneg
    clear h1 h2
    go_enter Try.func46, Try.ntmps46
    go_wp2
    go_ret
    exact ⟨rfl, rfl⟩
/-- A relay receives a packet. -/
theorem recv_any (K : List (List UInt8)) (M n : Nat) (G : Nat → Prop) (b rb ci gk ck : Nat) (id : Int) (ao : Nat → Option Addr) (cs : Nat → Nat) (ai : Option Addr) (h : Hd) (p : Pk) (w : World) (x : HoX G w b rb id ao cs ai ci gk ck h) (ok : OkH K M h) (op : OkP K M n p) (hM : M ≤ 1900000) :
    Calls Try.prog 11 #[.pointer (some ⟨rb, 0, none⟩), pkV p] w fun e w' => ∃ a1 c1 a2 c2 ao' cs', e = .returned (.tuple #[.slice a1 (cmsH id p h).length c1, .slice a2 (aksH id p h).length c2]) ∧ OwnPc w.heap.size w' a1 c1 (cmsH id p h) ∧ OwnPk w.heap.size w' a2 c2 (aksH id p h) ∧ HoX G w' b rb id ao' cs' ai ci gk ck (rcvH id p h) ∧ Kept (TG G) w w' := by
  refine (receive_any G rb id h.os ao cs p w x.rl (by have := op.nu.2; omega) (fun k hk => by obtain ⟨h1, h2, h3⟩ := ok.nu k hk; exact ⟨h2, by omega, by omega⟩)).mono ?_
  intro e w' hr
  obtain ⟨a1, c1, a2, c2, he, o1, o2⟩ := hr.res
  obtain ⟨ao', cs', r⟩ := hr.st
  refine ⟨a1, c1, a2, c2, ao', cs', he, o1, o2, ?_, ?_⟩
  · have hno : ∀ q t cs, t ≠ 90 → t ≠ 9 → ¬ TX G rb q (.cells cs t (0, 0)) := fun q t cs n1 n2 e => by
      rcases e with ⟨_, _, e⟩ | ⟨_, _, e⟩ <;> (cases e; first | exact n1 rfl | exact n2 rfl)
    exact ⟨hr.kw.block _ _ x.ho (hno _ _ _ (by decide) (by decide)), x.gb, x.gr, r, own_keptG x.it hr.kw (fun g _ _ => hno _ _ _ (by decide) (by decide)), x.gi, own_keptG x.kb hr.kw (fun g _ _ => hno _ _ _ (by decide) (by decide)), x.gk⟩
  · refine hr.kw.mono (fun q o e => ?_)
    rcases e with ⟨rfl, _⟩ | ⟨e, _⟩
    · exact x.gr
    · exact e
set_option maxRecDepth 100000 in
set_option maxHeartbeats 8000000 in
theorem comes_any (K : List (List UInt8)) (M : Nat) (Gs : Nat → Nat → Prop) (b hb ch cw : Nat) (hs : Nat → Nat) (aw : Option Addr) (S : Sd) (p : Pk) (w : World) (x : ShX Gs w b hb ch hs aw cw S) (inv : Inv K M S) (op : OkP K M S.n p) (hM : M ≤ 1900000) :
    Calls Try.prog 47 #[.pointer (some ⟨b, 0, none⟩), pkV p] w fun e w' => e = .returned (.tuple #[]) ∧ ShPost Gs w b hb ch hs (comesS p S) w' := by
  obtain ⟨i2, hi2, hx0, hx1, hx2⟩ := info_parts Try.infoOwnPk
  have hn9 := inv.n1.2
  have hwl := inv.wl
  have hds := op.ds
  have inv' : K.length ≤ M := inv.kl
  obtain ⟨i, HI⟩ : ∃ i : Nat, Hid (i = p.ds.toNat - 1) := ⟨_, rfl⟩
  have hi : i < S.n := by rw [HI.out]; omega
  have hid : ((i + 1 : Nat) : Int) = p.ds := by rw [HI.out]; omega
  obtain ⟨h, Hh⟩ : ∃ h, Hid (h = S.ho i) := ⟨_, rfl⟩
  obtain ⟨rb, ao, cs, ai, ci, gk, ck, y⟩ := x.ho i hi
  rw [hid, ← Hh.out] at y
  have HOK : Hid (OkH K M h) := by rw [Hh.out]; exact inv.ho i hi
  have HOP : Hid (OkP K M S.n p) := op
  have HX : Hid (ShX Gs w b hb ch hs aw cw S) := x
  have HY : Hid (HoX (Gs i) w (hs i) rb p.ds ao cs ai ci gk ck h) := y
  obtain ⟨W, hW⟩ : ∃ W, W = w.alloc (.cells #[.int .i64 p.fr, .int .i64 p.ds, .int .i64 p.nu, .bool p.ak, .string (bs p.bd)] 34) := ⟨_, rfl⟩
  obtain ⟨A, HA⟩ : ∃ A : Nat, Hid (A = w.heap.size) := ⟨_, rfl⟩
  have KW : Hid (Kept Nil w W) := by rw [hW]; exact (Kept.refl _ _).alloc _
  have HAW : Hid (W.heap[A]? = some (.cells #[.int .i64 p.fr, .int .i64 p.ds, .int .i64 p.nu, .bool p.ak, .string (bs p.bd)] 34 (0, 0))) := by rw [hW, HA.out]; exact blk_new _ _
  have HBW : Hid (W.heap[b]? = some (.cells #[.slice (some ⟨hb, 0, none⟩) S.n ch, .slice aw S.wy.length cw] 98 (0, 0))) := KW.out.block _ _ x.blk (fun e => e)
  have s0 : W.cell? ⟨b, 0, none⟩ = some (.slice (some ⟨hb, 0, none⟩) S.n ch) := blk_at HBW.out 0 rfl
  have d1 : W.cell? ⟨A, 1, none⟩ = some (.int .i64 p.ds) := blk_at HAW.out 1 rfl
  have hat : W.cell? ⟨hb, i, none⟩ = some (.pointer (some ⟨hs i, 0, none⟩)) := (HX.out.kept KW.out).at hi
  have hbl : b < W.heap.size := lt_of_block HBW.out
  have hAl : A < W.heap.size := lt_of_block HAW.out
  have hhl : hb < W.heap.size := World.block_lt_of_cell? W _ hat
  have hwr : IntKind.i64.wrap (p.ds - 1) = (i : Int) := by rw [IntKind.wrap_i64]; omega
  have hii : (i : Int) < (S.n : Int) := by omega
  obtain ⟨ds, HD⟩ : ∃ ds, Hid (ds = p.ds) := ⟨_, rfl⟩
  clear x y inv op hid hds
  unfold pkV
  go_enter Try.func47, Try.ntmps47
  go_upto_region 1 with fail
  rw [← hW, ← HA.out]
  clear hW
  go_quiet (fail)
  rename Nat => nq
  obtain ⟨V, hV⟩ : ∃ V, V = W.drewN nq := ⟨_, rfl⟩
  have KWV : Hid (Kept Nil W V) := by rw [hV]; exact (Kept.refl _ _).drewN _
  rw [← hV]
  clear hV s0 d1 hat
  have KV : Hid (Kept Nil w V) := KW.out.trans KWV.out
  have HAV : Hid (V.heap[A]? = some (.cells #[.int .i64 p.fr, .int .i64 p.ds, .int .i64 p.nu, .bool p.ak, .string (bs p.bd)] 34 (0, 0))) := KWV.out.block _ _ HAW.out (fun e => e)
  have HYV : Hid (HoX (Gs i) V (hs i) rb p.ds ao cs ai ci gk ck h) := HY.out.kept KV.out
  have RC := recv_any K M S.n (Gs i) (hs i) rb ci gk ck p.ds ao cs ai h p V.drew (HYV.out.kept (Kept.refl _ _).drew) HOK.out HOP.out hM
  obtain ⟨coms, HCo⟩ : ∃ coms, Hid (coms = cmsH p.ds p h) := ⟨_, rfl⟩
  obtain ⟨acks, HAc⟩ : ∃ acks, Hid (acks = aksH p.ds p h) := ⟨_, rfl⟩
  obtain ⟨h1, Hh1⟩ : ∃ h1, Hid (h1 = rcvH p.ds p h) := ⟨_, rfl⟩
  rw [← HCo.out, ← HAc.out, ← Hh1.out] at RC
  unfold pkV at RC
  have e0 : V.cell? ⟨hs i, 0, none⟩ = some (.pointer (some ⟨rb, 0, none⟩)) := blk_at HYV.out.ho 0 rfl
  have q0 : V.cell? ⟨A, 0, none⟩ = some (.int .i64 p.fr) := blk_at HAV.out 0 rfl
  have q1 : V.cell? ⟨A, 1, none⟩ = some (.int .i64 p.ds) := blk_at HAV.out 1 rfl
  have q2 : V.cell? ⟨A, 2, none⟩ = some (.int .i64 p.nu) := blk_at HAV.out 2 rfl
  have q3 : V.cell? ⟨A, 3, none⟩ = some (.bool p.ak) := blk_at HAV.out 3 rfl
  have q4 : V.cell? ⟨A, 4, none⟩ = some (.string (bs p.bd)) := blk_at HAV.out 4 rfl
  have hAV : A < V.heap.size := lt_of_block HAV.out
  have hhV : hs i < V.heap.size := lt_of_block HYV.out.ho
  go_upto_region 2 with fail
  go_cut [5, 6] (fun x5 x6 w5 => ∃ a1 c1 a2 c2 ao' cs', x5 = .slice a1 coms.length c1 ∧ x6 = .slice a2 acks.length c2 ∧ Hid (OwnPc V.heap.size w5 a1 c1 coms) ∧ Hid (OwnPk V.heap.size w5 a2 c2 acks) ∧ Hid (HoX (Gs i) w5 (hs i) rb p.ds ao' cs' ai ci gk ck h1) ∧ Hid (Kept (TG (Gs i)) V w5))
  case first =>
    go_region_with (go_at_call 11; go_must (go_fit RC); rintro e w5 ⟨a1, c1, a2, c2, ao', cs', rfl, o1, o2, x5, k5⟩; have HR5 : Hid (OwnPc V.heap.size w5 a1 c1 coms ∧ OwnPk V.heap.size w5 a2 c2 acks ∧ HoX (Gs i) w5 (hs i) rb p.ds ao' cs' ai ci gk ck h1 ∧ Kept (TG (Gs i)) V w5) := ⟨o1, o2, x5, (Kept.refl _ _).drew.trans k5⟩; clear o1 o2 x5 k5)
    all_goals
      go_wp2
      go_meet
      exact ⟨a1, c1, a2, c2, ao', cs', rfl, rfl, HR5.out.1, HR5.out.2.1, HR5.out.2.2.1, HR5.out.2.2.2⟩
  case rest =>
    rename World => w5
    obtain ⟨a1, c1, a2, c2, ao', cs', rfl, rfl, HO1, HO2, HX5, HK5⟩ := hcut
    clear RC e0 q0 q1 q2 q3 q4
    apply_assumption
    obtain ⟨Gi, HGi⟩ : ∃ Gi : Nat → Prop, Hid (Gi = GN (Gs i) w5) := ⟨_, rfl⟩
    have HUP : Hid (∀ wk : World, w5.heap.size ≤ wk.heap.size → ∀ g, GN Gi wk g → Gi g) := fun wk hwk g hg => by
      rw [HGi.out] at hg ⊢
      exact gn_gn hwk hg
    have HXi : Hid (HoM Gi w5 (hs i) p.ds h1) := by rw [HGi.out]; exact (HX5.out.up (fun g hg => .inl hg)).m
    have HNG : Hid (∀ g, V.heap.size ≤ g → g < w5.heap.size → ¬ Gi g) := fun g h1 h2 e => by
      rw [HGi.out] at e
      rcases e with e | e
      · have := HX.out.lt _ _ e; have := KV.out.size; omega
      · omega
    have HO1k : Hid (∀ wr, Kept (TG Gi) w5 wr → OwnPc V.heap.size wr a1 c1 coms) := fun wr hk => own_keptG HO1.out hk (fun g _ hg e => by
      have h1 := World.ownsRow.lt HO1.out g hg
      exact HNG.out g h1.1 h1.2 e)
    have HO2k : Hid (∀ wr, Kept (TG Gi) w5 wr → OwnPk V.heap.size wr a2 c2 acks) := fun wr hk => own_keptG HO2.out hk (fun g _ hg e => by
      have h1 := World.ownsRow.lt HO2.out g hg
      exact HNG.out g h1.1 h1.2 e)
    have HOK1 : Hid (OkH K M h1) := by rw [Hh1.out]; exact HOK.out.rcv HOP.out p.ds
    have HC1 : Hid (coms = [] ∨ (p.ak = false ∧ coms = [⟨p.fr, p.bd⟩])) := by rw [HCo.out]; exact cms_one
    have HKL : Hid (K.length ≤ M) := inv'
    go_wp2
    go_loopw [29] (fun u wr => ∃ k : Nat, k ≤ coms.length ∧ u = .int .i64 k ∧ Hid (HoM Gi wr (hs i) p.ds (takesH p.ds (coms.take k) h1)) ∧ Hid (Kept (TG Gi) w5 wr)) (fun u _ => coms.length - (intOf u).toNat)
    case atStart => exact ⟨0, Nat.zero_le _, rfl, HXi.out, Kept.refl _ _⟩
    case round =>
      obtain ⟨k, hk, rfl, HXk, HKk⟩ := hrel
      by_cases hlt : k < coms.length
      · have hli : (k : Int) < (coms.length : Int) := by omega
        have hmx : (k : Int) + 1 ≤ 100 := by
          rcases HC1.out with e | ⟨_, e⟩ <;> (rw [e] at hlt; simp at hlt)
          omega
        have hk0 : k = 0 ∧ coms = [⟨p.fr, p.bd⟩] ∧ p.ak = false := by
          rcases HC1.out with e | ⟨e1, e⟩
          · rw [e] at hlt; simp at hlt
          · rw [e] at hlt; simp at hlt; exact ⟨hlt, e, e1⟩
        obtain ⟨g, eg, -, -, c0, c1', -, -⟩ := (HO1k.out wr HKk.out).cells hlt
        subst eg
        obtain ⟨z, HZ⟩ : ∃ z : Pc, Hid (z = coms[k]) := ⟨coms[k], (rfl : coms[k] = coms[k])⟩
        rw [← HZ.out] at c0 c1'
        have HZB : Hid (z.bd = p.bd) := by
          show _ = _
          obtain ⟨rfl, e, _⟩ := hk0
          rw [HZ.out]
          simp [e]
        have HT0 : Hid (takesH p.ds (coms.take k) h1 = h1) := by show _ = _; rw [hk0.1]; rfl
        have HT1 : Hid (takesH p.ds (coms.take (k + 1)) h1 = takeHd p.ds z.bd h1) := by
          show _ = _
          rw [HZB.out, hk0.1, hk0.2.1]
          rfl
        have HGB : Hid (GoodB K z.bd) := by rw [HZB.out]; exact HOP.out.bd hk0.2.2
        clear hk0
        obtain ⟨W6, hW6⟩ : ∃ W6, W6 = wr.alloc (.cells #[.int .i64 z.fr, .string (bs z.bd)] 42) := ⟨_, rfl⟩
        obtain ⟨A6, HA6⟩ : ∃ A : Nat, Hid (A = wr.heap.size) := ⟨_, rfl⟩
        have KW6 : Hid (Kept Nil wr W6) := by rw [hW6]; exact (Kept.refl _ _).alloc _
        have HAW6 : Hid (W6.heap[A6]? = some (.cells #[.int .i64 z.fr, .string (bs z.bd)] 42 (0, 0))) := by rw [hW6, HA6.out]; exact blk_new _ _
        have HX6 : Hid (HoM Gi W6 (hs i) p.ds h1) := by have := HXk.out; rw [HT0.out] at this; exact this.keptX KW6.out (fun _ _ _ e => e)
        have TK := take_any K M Gi (hs i) p.ds h1 z.bd W6 HX6.out HOK1.out HGB.out HKL.out hM
        have u1 : W6.cell? ⟨A6, 1, none⟩ = some (.string (bs z.bd)) := blk_at HAW6.out 1 rfl
        go_upto_region 6 with fail
        rw [← hW6, ← HA6.out]
        clear hW6
        go_wp2_with fail
        go_fit TK
        rintro e w7 ⟨rfl, x7, k7⟩
        have HX7 : Hid (HoM Gi w7 (hs i) p.ds (takesH p.ds (coms.take (k + 1)) h1)) := by rw [HT1.out]; exact x7.up (HUP.out W6 (Nat.le_trans HKk.out.size KW6.out.size))
        have HK7 : Hid (Kept (TG Gi) w5 w7) := (HKk.out.trans KW6.out.nilG).trans k7
        clear TK x7 k7 u1
        go_wp2
        go_roundw
        case rel => exact ⟨k + 1, by omega, by congr 1, HX7.out, HK7.out⟩
        case measure => simp [intOf]; omega
      · obtain rfl : k = coms.length := by omega
        have HTe : Hid (takesH p.ds (coms.take coms.length) h1 = comeH p.ds p h) := by show _ = _; rw [List.take_length, HCo.out, Hh1.out]; rfl
        have HXe : Hid (HoM (GN (Gs i) w) wr (hs i) (i + 1 : Nat) (comeH p.ds p h)) := by
          have h2 : ((i + 1 : Nat) : Int) = p.ds := by have := HOP.out.ds; have := HI.out; omega
          have h3 := HXk.out
          rw [HTe.out] at h3
          rw [h2]
          refine h3.up (fun g hg => ?_)
          rw [HGi.out] at hg
          rcases hg with hg | hg
          · exact .inl hg
          · exact .inr (Nat.le_trans (Nat.le_trans KV.out.size HK5.out.size) hg)
        have HKe : Hid (Kept (TG (Gs i)) w wr) := by
          refine Kept.next (KV.out.nilG.trans HK5.out) (HKk.out.upG (fun g hg => ?_))
          rw [HGi.out] at hg
          rcases hg with hg | hg
          · exact .inl hg
          · exact .inr (Nat.le_trans (Nat.le_trans KV.out.size HK5.out.size) hg)
        have HXr := HX.out.host hi HXe.out HKe.out
        obtain ⟨T, HT⟩ : ∃ T, Hid (T = putH S i (comeH p.ds p h)) := ⟨_, rfl⟩
        rw [← HT.out] at HXr
        have HXR : Hid (ShX (famN Gs i w wr) wr b hb ch hs aw cw T) := HXr
        clear HXr
        have HCS : Hid (comesS p S = { T with wy := T.wy ++ acks }) := by show _ = _; rw [HT.out, HAc.out, Hh.out, HI.out]; rfl
        have HTW : Hid (T.wy.length ≤ 160 * M) := by rw [HT.out]; exact hwl
        have HAL : Hid (acks.length ≤ 1) := by rw [HAc.out]; exact aks_len _ _ _
        have HLL : Hid (T.wy.length + acks.length ≤ maxLen ∧ (T.wy.length + acks.length) * 48 ≤ 140737488355328) := by
          have h1 := HTW.out
          have h2 := HAL.out
          constructor <;> (try unfold maxLen) <;> omega
        have SR : Hid (Src Try.prog 5 28 (.slice a2 acks.length c2) acks.length (pkCells acks) wr) := (HO2k.out wr HKk.out).src
        have s1 : wr.cell? ⟨b, 1, none⟩ = some (.slice aw T.wy.length cw) := blk_at HXR.out.blk 1 rfl
        have hbr : b < wr.heap.size := lt_of_block HXR.out.blk
        go_wp2_with (at_builtin; go_must (refine wpList_append_row _ rfl _ _ 28 28 rfl 34 i2 (.agg #[.int .i64 0, .int .i64 0, .int .i64 0, .bool false, .string ⟨#[]⟩]) 5 48 Try.underlying28 hi2 hx0 hx1 hx2 rfl (.slice aw T.wy.length cw) T.wy.length (pkCells T.wy) rfl HXR.out.wy (.slice a2 acks.length c2) acks.length (pkCells acks) rfl SR.out HLL.out.1 HLL.out.2 ?_); intro a9 c9 w9 r9 g9 t9; have HF : Hid (ShPost (famN Gs i w wr) wr b hb ch hs { T with wy := T.wy ++ acks } (w9.setCell ⟨b, 1, none⟩ (.slice a9 (T.wy.length + acks.length) c9))) := HXR.out.more (Kept.refl _ _) r9 g9 t9; have s9 : w9.heap[b]? = some (.cells #[.slice (some ⟨hb, 0, none⟩) T.n ch, .slice aw T.wy.length cw] 98 (0, 0)) := (by rw [g9.block b hbr (fun e => by obtain ⟨_, e2⟩ := HXR.out.wy.tp e.symm HXR.out.blk; cases e2)]; exact HXR.out.blk); have e9 : w9.cell? ⟨b, 1, none⟩ = some (.slice aw T.wy.length cw) := blk_at s9 1 rfl; have f9 : w9.frozen? ⟨b, 1, none⟩ = false := blk_free s9 _; clear r9 g9 t9 s9)
        go_end0
        rw [HCS.out]
        exact ⟨rfl, ShPost.trans (fun j g hg => famN_sub hg) (HKe.out.mono (fun _ _ e => ⟨i, e⟩)) HF.out⟩
end Go.Proofs.Ytpfgnhockfofhaa

/-
  Shards: what is on its way is carried.
-/
namespace Go.Proofs.Ytpfgnhockfofhaa
open Go.RowKit

theorem ShPost.same {Gs : Nat → Nat → Prop} {w w' : World} {b hb ch cw : Nat} {hs : Nat → Nat} {aw : Option Addr} {S : Sd} (x : ShX Gs w b hb ch hs aw cw S) (k : Kept Nil w w') : ShPost Gs w b hb ch hs S w' := ⟨⟨Gs, aw, cw, x.kept k, fun _ _ hg => .inl hg⟩, k.mono (fun _ _ e => e.elim)⟩
set_option maxRecDepth 100000 in
set_option maxHeartbeats 8000000 in
theorem carry_any (K : List (List UInt8)) (M : Nat) (kd n : Int) (Gs : Nat → Nat → Prop) (b hb ch cw : Nat) (hs : Nat → Nat) (aw : Option Addr) (S : Sd) (w : World) (x : ShX Gs w b hb ch hs aw cw S) (inv : Inv K M S) (hM : M ≤ 1900000) :
    Calls Try.prog 36 #[.pointer (some ⟨b, 0, none⟩), .int .i64 kd, .int .i64 n] w fun e w' => e = .returned (.tuple #[]) ∧ ShPost Gs w b hb ch hs (carryS kd n S) w' := by
  obtain ⟨i2, hi2, hx0, hx1, hx2⟩ := info_parts Try.infoOwnPk
  have hwl := inv.wl
  have HIn : Hid (Inv K M S) := inv
  have HX : Hid (ShX Gs w b hb ch hs aw cw S) := x
  have HB : Hid (w.heap[b]? = some (.cells #[.slice (some ⟨hb, 0, none⟩) S.n ch, .slice aw S.wy.length cw] 98 (0, 0))) := x.blk
  have s1 : w.cell? ⟨b, 1, none⟩ = some (.slice aw S.wy.length cw) := blk_at HB.out 1 rfl
  have hbl : b < w.heap.size := lt_of_block HB.out
  obtain ⟨T, HT⟩ : ∃ T, Hid (T = carryS kd n S) := ⟨_, rfl⟩
  rw [← HT.out]
  clear x inv
  by_cases hz : S.wy.length = 0
  · have HTe : Hid (T = S) := by
      show _ = _
      rw [HT.out]
      unfold carryS
      rw [List.getElem?_eq_none (by omega)]
    have hzi : (S.wy.length : Int) = 0 := by omega
    clear hz
    go_enter Try.func36, Try.ntmps36
    go_wp2
    refine bodyPost_ret (results_none rfl _ _ _) rfl ?_
    rw [HTe.out]
    exact ⟨rfl, ShPost.same HX.out (Kept.refl _ _)⟩
  · obtain ⟨at', HA⟩ : ∃ at', Hid (at' = atW n S.wy.length) := ⟨_, rfl⟩
    have hat : at' < S.wy.length := by rw [HA.out]; exact atW_lt n (by omega)
    obtain ⟨p, HP⟩ : ∃ p, Hid (S.wy[at']? = some p) := ⟨S.wy[at'], List.getElem?_eq_getElem hat⟩
    have HTe : Hid (T = if kd = 6 then comesS p (dropW at' S) else if kd = 7 then dropW at' S else if kd = 8 then { S with wy := S.wy ++ [p] } else S) := by
      show _ = _
      rw [HT.out]
      unfold carryS
      rw [← HA.out, HP.out]
    have RO := round_any n S.wy.length w (by omega) (by omega)
    rw [← HA.out] at RO
    have hzi : ¬ (S.wy.length : Int) = 0 := by omega
    have hati : (at' : Int) < (S.wy.length : Int) := by omega
    go_enter Try.func36, Try.ntmps36
    go_wp2_with fail
    go_fit RO
    rintro e w1 ⟨rfl, rfl⟩
    go_upto_region 2 with fail
    by_cases h6 : kd = 6
    · have HT6 : Hid (T = comesS p (dropW at' S)) := by have := HTe.out; rwa [if_pos h6] at this
      subst h6
      have TO := takeOff_any at' Gs b hb ch cw hs aw S p w1 HX.out hat HP.out (by omega)
      go_wp2_with fail
      go_fit TO
      rintro e w2 ⟨rfl, ⟨⟨G2, aw2, cw2, x2, h2⟩, k2⟩⟩
      have CM := comes_any K M G2 b hb ch cw2 hs aw2 (dropW at' S) p w2 x2 (HIn.out.drop at') (HIn.out.wy p (List.mem_of_getElem? HP.out)) hM
      go_wp2_with fail
      go_fit CM
      rintro e w3 ⟨rfl, k3⟩
      have HF : Hid (ShPost Gs w1 b hb ch hs (comesS p (dropW at' S)) w3) := ShPost.trans h2 k2 k3
      clear TO CM x2 h2 k2 k3
      go_wp2
      go_end0
      rw [HT6.out]
      exact ⟨rfl, HF.out⟩
    · by_cases h7 : kd = 7
      · have HT6 : Hid (T = dropW at' S) := by have := HTe.out; rwa [if_neg h6, if_pos h7] at this
        subst h7
        have TO := takeOff_any at' Gs b hb ch cw hs aw S p w1 HX.out hat HP.out (by omega)
        go_wp2_with fail
        go_fit TO
        rintro e w2 ⟨rfl, k2⟩
        go_wp2
        go_end0
        rw [HT6.out]
        exact ⟨rfl, k2⟩
      · by_cases h8 : kd = 8
        · have HT6 : Hid (T = { S with wy := S.wy ++ [p] }) := by have := HTe.out; rwa [if_neg h6, if_neg h7, if_pos h8] at this
          subst h8
          obtain ⟨g, o, cur, eaw, hcur, hlc, hcm, hcs, hcat⟩ := HX.out.wy.block (by omega)
          obtain ⟨hpl, hpe⟩ := List.getElem?_eq_some_iff.1 HP.out
          obtain ⟨pe0, pe1, pe2, pe3, pe4⟩ := pkCells_at S.wy at' hpl
          rw [hpe] at pe0 pe1 pe2 pe3 pe4
          have hcell : ∀ i v, (pkCells S.wy)[at' * 5 + i]? = some v → i < 5 → w1.cell? ⟨g, o + (at' * 5 + i), none⟩ = some v := fun i v h hi => by rw [blk_cell hcur, hcat _ (by omega), h]
          have q0 : w1.cell? ⟨g, o + at' * 5, none⟩ = some (.int .i64 p.fr) := hcell 0 _ pe0 (by omega)
          have q1 : w1.cell? ⟨g, o + at' * 5 + 1, none⟩ = some (.int .i64 p.ds) := hcell 1 _ pe1 (by omega)
          have q2 : w1.cell? ⟨g, o + at' * 5 + 2, none⟩ = some (.int .i64 p.nu) := hcell 2 _ pe2 (by omega)
          have q3 : w1.cell? ⟨g, o + at' * 5 + 3, none⟩ = some (.bool p.ak) := hcell 3 _ pe3 (by omega)
          have q4 : w1.cell? ⟨g, o + at' * 5 + 4, none⟩ = some (.string (bs p.bd)) := hcell 4 _ pe4 (by omega)
          have hgl : g < w1.heap.size := lt_of_block hcur
          clear pe0 pe1 pe2 pe3 pe4 hcell hcat hpe hcs
          subst eaw
          have HLL : Hid (S.wy.length + 1 ≤ maxLen ∧ (S.wy.length + 1) * 48 ≤ 140737488355328) := by constructor <;> (try unfold maxLen) <;> omega
          obtain ⟨W, hW⟩ : ∃ W, W = w1.drew.alloc (.cells #[.int .i64 p.fr, .int .i64 p.ds, .int .i64 p.nu, .bool p.ak, .string (bs p.bd)] 34) := ⟨_, rfl⟩
          have HWe : Hid ((w1.alloc (.cells #[.int .i64 p.fr, .int .i64 p.ds, .int .i64 p.nu, .bool p.ak, .string (bs p.bd)] 34)).drew = W) := hW.symm
          have HWf : Hid (w1.drew.alloc (.cells #[.int .i64 p.fr, .int .i64 p.ds, .int .i64 p.nu, .bool p.ak, .string (bs p.bd)] 34) = W) := hW.symm
          have KW : Hid (Kept Nil w1 W) := by rw [hW]; exact (Kept.refl _ _).drew.alloc _
          have SR : Hid (Src Try.prog 5 28 (.slice (some ⟨w1.heap.size, 0, none⟩) 1 1) 1 [.int .i64 p.fr, .int .i64 p.ds, .int .i64 p.nu, .bool p.ak, .string (bs p.bd)] W) := by rw [hW]; exact oneOwnPk_src w1.drew p
          have HRW : Hid (RowAt W 34 5 (.slice (some ⟨g, o, none⟩) S.wy.length cw) S.wy.length (pkCells S.wy)) := HX.out.wy.keptX KW.out (fun _ _ _ e => e)
          have HBW : Hid (W.heap[b]? = some (.cells #[.slice (some ⟨hb, 0, none⟩) S.n ch, .slice (some ⟨g, o, none⟩) S.wy.length cw] 98 (0, 0))) := KW.out.block _ _ HB.out (fun e => e)
          have HPC : Hid (pkCells [p] = [.int .i64 p.fr, .int .i64 p.ds, .int .i64 p.nu, .bool p.ak, .string (bs p.bd)]) := by show _ = _; simp [pkCells, pkCell]
          clear hW
          go_upto_region 8 with fail
          go_region_law ((first | rw [HWf.out] | rw [HWe.out]); refine step_append_row rfl (.tmp 39) (.tmp 47) 28 28 rfl 34 i2 (.agg #[.int .i64 0, .int .i64 0, .int .i64 0, .bool false, .string ⟨#[]⟩]) 5 48 Try.underlying28 hi2 hx0 hx1 hx2 rfl (.slice (some ⟨g, o, none⟩) S.wy.length cw) S.wy.length (pkCells S.wy) (by simp [Act.eval]) HRW.out (.slice (some ⟨w1.heap.size, 0, none⟩) 1 1) 1 [.int .i64 p.fr, .int .i64 p.ds, .int .i64 p.nu, .bool p.ak, .string (bs p.bd)] (by simp [Act.eval]) SR.out HLL.out.1 HLL.out.2 ?_; intro a6 c6 w6 r6 g6 t6; have HF : Hid (ShPost Gs w1 b hb ch hs { S with wy := S.wy ++ [p] } (w6.setCell ⟨b, 1, none⟩ (.slice a6 (S.wy.length + 1) c6))) := HX.out.more (ps := [p]) KW.out (by rw [HPC.out]; exact r6) g6 t6; have s6 : w6.heap[b]? = some (.cells #[.slice (some ⟨hb, 0, none⟩) S.n ch, .slice (some ⟨g, o, none⟩) S.wy.length cw] 98 (0, 0)) := (by rw [g6.block b (lt_of_block HBW.out) (fun e => by obtain ⟨_, e2⟩ := HRW.out.tp e.symm HBW.out; cases e2)]; exact HBW.out); have e6 : w6.cell? ⟨b, 1, none⟩ = some (.slice (some ⟨g, o, none⟩) S.wy.length cw) := blk_at s6 1 rfl; have f6 : w6.frozen? ⟨b, 1, none⟩ = false := blk_free s6 _; clear r6 g6 t6 s6)
          all_goals
            go_wp2
            go_end0
            rw [HT6.out]
            exact ⟨rfl, HF.out⟩
        · have HT6 : Hid (T = S) := by have := HTe.out; rwa [if_neg h6, if_neg h7, if_neg h8] at this
          go_wp2
          go_end0
          rw [HT6.out]
          exact ⟨rfl, ShPost.same HX.out (Kept.refl _ _)⟩
end Go.Proofs.Ytpfgnhockfofhaa

/-
  Shards: is there such a host, may a step be.
-/
namespace Go.Proofs.Ytpfgnhockfofhaa
open Go.RowKit

set_option maxRecDepth 100000 in
set_option maxHeartbeats 1000000 in
theorem isHost_any (n b hb ch : Nat) (v : Value) (id : Int) (w : World) (h : w.heap[b]? = some (.cells #[.slice (some ⟨hb, 0, none⟩) n ch, v] 98 (0, 0))) :
    Calls Try.prog 37 #[.pointer (some ⟨b, 0, none⟩), .int .i64 id] w fun e w' => e = .returned (.bool (isHo n id)) ∧ w' = w := by
  have s0 : w.cell? ⟨b, 0, none⟩ = some (.slice (some ⟨hb, 0, none⟩) n ch) := blk_at h 0 rfl
  have hbl : b < w.heap.size := lt_of_block h
  clear h
  obtain ⟨z, HZ⟩ : ∃ z, Hid (z = isHo n id) := ⟨_, rfl⟩
  rw [← HZ.out]
  by_cases h1 : 1 ≤ id
  · by_cases h2 : id ≤ n
    · have HE : Hid (z = true) := by show _ = _; rw [HZ.out, isHo_iff]; exact ⟨h1, h2⟩
      go_enter Try.func37, Try.ntmps37
      go_wp2
      go_ret
      exact ⟨by rw [HE.out]; rfl, rfl⟩
    · have HE : Hid (z = false) := by
        show _ = _
        rw [HZ.out]
        cases h : isHo n id
        · rfl
        · exact absurd (isHo_iff.1 h).2 h2
      go_enter Try.func37, Try.ntmps37
      go_wp2
      go_ret
      exact ⟨by rw [HE.out]; rfl, rfl⟩
  · have HE : Hid (z = false) := by
      show _ = _
      rw [HZ.out]
      cases h : isHo n id
      · rfl
      · exact absurd (isHo_iff.1 h).1 h1
    go_enter Try.func37, Try.ntmps37
    go_wp2
    go_ret
    exact ⟨by rw [HE.out]; rfl, rfl⟩
set_option maxRecDepth 100000 in
set_option maxHeartbeats 2000000 in
theorem mayBe_any (kd hs ot nn : Int) (ky up vl : List UInt8) (w : World) (hl : ky.length ≤ 1000000000000 ∧ up.length ≤ 1000000000000 ∧ vl.length ≤ 1000000000000) :
    Calls Try.prog 38 #[.agg #[.int .i64 kd, .int .i64 hs, .int .i64 ot, .int .i64 nn, .string (bs ky), .string (bs up), .string (bs vl)]] w fun e w' => e = .returned (.bool (mayS ⟨kd, hs, ot, nn, ky, up, vl⟩)) ∧ Kept Nil w w' := by
  obtain ⟨W, hW⟩ : ∃ W, W = w.alloc (.cells #[.int .i64 kd, .int .i64 hs, .int .i64 ot, .int .i64 nn, .string (bs ky), .string (bs up), .string (bs vl)] 74) := ⟨_, rfl⟩
  obtain ⟨A, HA⟩ : ∃ A : Nat, Hid (A = w.heap.size) := ⟨_, rfl⟩
  have KW : Hid (Kept Nil w W) := by rw [hW]; exact (Kept.refl _ _).alloc _
  have HAW : Hid (W.heap[A]? = some (.cells #[.int .i64 kd, .int .i64 hs, .int .i64 ot, .int .i64 nn, .string (bs ky), .string (bs up), .string (bs vl)] 74 (0, 0))) := by rw [hW, HA.out]; exact blk_new _ _
  have p0 : W.cell? ⟨A, 0, none⟩ = some (.int .i64 kd) := blk_at HAW.out 0 rfl
  have p4 : W.cell? ⟨A, 4, none⟩ = some (.string (bs ky)) := blk_at HAW.out 4 rfl
  have p5 : W.cell? ⟨A, 5, none⟩ = some (.string (bs up)) := blk_at HAW.out 5 rfl
  have p6 : W.cell? ⟨A, 6, none⟩ = some (.string (bs vl)) := blk_at HAW.out 6 rfl
  have sz4 := bs_size ky
  have sz5 := bs_size up
  have sz6 := bs_size vl
  obtain ⟨z, HZ⟩ : ∃ z, Hid (z = mayS ⟨kd, hs, ot, nn, ky, up, vl⟩) := ⟨_, rfl⟩
  rw [← HZ.out]
  obtain ⟨t, HTe⟩ : ∃ t, Hid (t = (ky.isEmpty && decide (kd < 4))) := ⟨_, rfl⟩
  have HZ1 : Hid (z = (!t && (decide (ky.length ≤ 16) && (decide (up.length ≤ 16) && decide (vl.length ≤ 64))))) := by show _ = _; rw [HZ.out, HTe.out]; rfl
  have hem : ∀ x : List UInt8, (bs x).toList.isEmpty = x.isEmpty := fun x => by rw [bs_toList]
  obtain ⟨em, HEm⟩ : ∃ em, Hid (em = ky.isEmpty) := ⟨_, rfl⟩
  have hemk : (bs ky).toList.isEmpty = em := by rw [bs_toList, HEm.out]
  clear hem
  go_enter Try.func38, Try.ntmps38
  go_upto_region 1 with fail
  rw [← hW, ← HA.out]
  clear hW
  go_cut [10] (fun x w5 => x = .bool t ∧ w5 = W)
  case first =>
    cases em with
    | true =>
      by_cases h4 : kd < 4
      · go_wp2
        go_meet
        exact ⟨by rw [HTe.out, ← HEm.out, decide_eq_true h4]; rfl, rfl⟩
      · go_wp2
        go_meet
        exact ⟨by rw [HTe.out, ← HEm.out, show decide (kd < 4) = false from decide_eq_false (by omega)]; rfl, rfl⟩
    | false =>
      go_wp2
      go_meet
      exact ⟨by rw [HTe.out, ← HEm.out]; rfl, rfl⟩
  case rest =>
    rename World => w5
    obtain ⟨rfl, rfl⟩ := hcut
    apply_assumption
    cases t with
    | true =>
      go_wp2
      go_ret
      exact ⟨by rw [HZ1.out]; rfl, KW.out⟩
    | false =>
      by_cases h1 : ky.length ≤ 16
      · by_cases h2 : up.length ≤ 16
        · go_wp2
          go_ret
          have e3 : decide ((vl.length : Int) ≤ 64) = decide (vl.length ≤ 64) := decide_eq_decide.2 (by omega)
          exact ⟨by rw [HZ1.out, decide_eq_true h1, decide_eq_true h2, ← e3]; rfl, KW.out⟩
        · go_wp2
          go_ret
          exact ⟨by rw [HZ1.out, decide_eq_true h1, decide_eq_false h2]; rfl, KW.out⟩
      · go_wp2
        go_ret
        exact ⟨by rw [HZ1.out, decide_eq_false h1]; rfl, KW.out⟩
end Go.Proofs.Ytpfgnhockfofhaa
