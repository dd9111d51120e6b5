/-
  Joined: WSs8.
-/
import Derived.Test.YtpfgnhockfofhaaGreatH33
/-
  The document's shards: a packet that moves comes.
-/
namespace Go.Proofs.YtpfgnhockfofhaaGreat
open Go.RowKit
set_option maxRecDepth 100000 in
set_option maxHeartbeats 8000000 in
theorem move_come (K : List (List UInt8)) (M : Nat) (Gs : Nat → Nat → Prop) (b hb ch cw : Nat) (hs : Nat → Nat) (aw : Option Addr) (S : Sd) (hh ot nn : Int) (ky up vl : List UInt8) (w : World) (x : SyX Gs w b hb ch hs aw cw S) (inv : Inv K M S) (hM : M ≤ 1900000) (hz : ¬ S.wy.length = 0) :
    Calls Tryz.prog 21 #[.pointer (some ⟨b, 0, none⟩), .agg #[.int .i64 6, .int .i64 hh, .int .i64 ot, .int .i64 nn, .string (bs ky), .string (bs up), .string (bs vl)]] w fun e w' => e = .returned (.tuple #[]) ∧ SyPost Gs w b hb ch hs (carryS 6 nn S) w' := by
  obtain ⟨i2, hi2, hx0, hx1, hx2⟩ := info_parts Tryz.infoOwnPk
  have hwl := inv.wl
  have HIn : Hid (Inv K M S) := inv
  have HX : Hid (SyX Gs w b hb ch hs aw cw S) := x
  obtain ⟨W, hW⟩ : ∃ W, W = w.alloc (.cells #[.int .i64 6, .int .i64 hh, .int .i64 ot, .int .i64 nn, .string (bs ky), .string (bs up), .string (bs vl)] 34) := ⟨_, rfl⟩
  obtain ⟨A, HA⟩ : ∃ A : Nat, Hid (A = w.heap.size) := ⟨_, rfl⟩
  have KW : Hid (Kept Nil w W) := by rw [hW]; exact (Kept.refl _ _).alloc _
  have HAW : Hid (W.heap[A]? = some (.cells #[.int .i64 6, .int .i64 hh, .int .i64 ot, .int .i64 nn, .string (bs ky), .string (bs up), .string (bs vl)] 34 (0, 0))) := by rw [hW, HA.out]; exact blk_new _ _
  have HXW : Hid (SyX Gs W b hb ch hs aw cw S) := x.kept KW.out
  have p0 : W.cell? ⟨A, 0, none⟩ = some (.int .i64 6) := blk_at HAW.out 0 rfl
  have p3 : W.cell? ⟨A, 3, none⟩ = some (.int .i64 nn) := blk_at HAW.out 3 rfl
  have s1 : W.cell? ⟨b, 1, none⟩ = some (.slice aw S.wy.length cw) := blk_at HXW.out.blk 1 rfl
  have hbW : b < W.heap.size := lt_of_block HXW.out.blk
  have hAW : A < W.heap.size := lt_of_block HAW.out
  obtain ⟨T, HT⟩ : ∃ T, Hid (T = carryS 6 nn S) := ⟨_, rfl⟩
  rw [← HT.out]
  obtain ⟨at', HAt⟩ : ∃ at', Hid (at' = atW nn S.wy.length) := ⟨_, rfl⟩
  have hat : at' < S.wy.length := by rw [HAt.out]; exact atW_lt nn (by omega)
  obtain ⟨p, HP⟩ : ∃ p, Hid (S.wy[at']? = some p) := ⟨S.wy[at'], List.getElem?_eq_getElem hat⟩
  have HTe : Hid (T = comesS p (dropW at' S)) := by
    show _ = _
    rw [HT.out]
    unfold carryS
    rw [← HAt.out, HP.out]
    rfl
  obtain ⟨m0, m1, m2⟩ := mod_mod nn S.wy.length (by omega)
  rw [← HAt.out] at m2
  obtain ⟨g, o, cur, eaw, hcur, hlc, hcm, hcs, hcat⟩ := HXW.out.wy.block (by omega)
  unfold maxLen at hcm
  obtain ⟨hpl, hpe⟩ := List.getElem?_eq_some_iff.1 HP.out
  obtain ⟨pe0, pe1, pe2, pe3, pe4⟩ := pkCells_at S.wy at' hpl
  rw [hpe] at pe0 pe1 pe2 pe3 pe4
  have hcell : ∀ i v, (pkCells S.wy)[at' * 5 + i]? = some v → i < 5 → W.cell? ⟨g, o + (at' * 5 + i), none⟩ = some v := fun i v h hi => by rw [blk_cell hcur, hcat _ (by omega), h]
  have q0 : W.cell? ⟨g, o + at' * 5, none⟩ = some (.int .i64 p.fr) := hcell 0 _ pe0 (by omega)
  have q1 : W.cell? ⟨g, o + at' * 5 + 1, none⟩ = some (.int .i64 p.ds) := hcell 1 _ pe1 (by omega)
  have q2 : W.cell? ⟨g, o + at' * 5 + 2, none⟩ = some (.int .i64 p.nu) := hcell 2 _ pe2 (by omega)
  have q3 : W.cell? ⟨g, o + at' * 5 + 3, none⟩ = some (.bool p.ak) := hcell 3 _ pe3 (by omega)
  have q4 : W.cell? ⟨g, o + at' * 5 + 4, none⟩ = some (.string (bs p.bd)) := hcell 4 _ pe4 (by omega)
  have hgl : g < W.heap.size := lt_of_block hcur
  have HCW : Hid (W.heap[g]? = some (.cells cur 86 (0, 0))) := hcur
  have HAT : Hid (∀ j, j < S.wy.length * 5 → cur[o + j]? = (pkCells S.wy)[j]?) := hcat
  have HCS : Hid (S.wy.length ≤ cw ∧ cw ≤ 9223372036854775807 ∧ o + cw * 5 ≤ cur.size) := ⟨hlc, by omega, hcs⟩
  subst eaw
  have hzi : ¬ (S.wy.length : Int) = 0 := by omega
  have hmp : (0 : Int) < (S.wy.length : Int) := by omega
  have hati : (at' : Int) < (S.wy.length : Int) := by omega
  obtain ⟨q, HQ⟩ : ∃ q : Int, Hid (q = nn.tmod S.wy.length) := ⟨_, rfl⟩
  have hwr : IntKind.i64.wrap (q + (S.wy.length : Int)) = q + (S.wy.length : Int) := by rw [IntKind.wrap_i64]; have := HQ.out; omega
  have hq1 : nn.tmod (S.wy.length : Int) = q := HQ.out.symm
  rw [← HQ.out] at m0 m1 m2
  obtain ⟨Y, hY⟩ : ∃ Y, Y = W.alloc (.cells #[.int .i64 p.fr, .int .i64 p.ds, .int .i64 p.nu, .bool p.ak, .string (bs p.bd)] 86) := ⟨_, rfl⟩
  obtain ⟨R, HR⟩ : ∃ R : Nat, Hid (R = W.heap.size) := ⟨_, rfl⟩
  have KY : Hid (Kept Nil w Y) := by rw [hY]; exact KW.out.alloc _
  have KWY : Hid (Kept Nil W Y) := by rw [hY]; exact (Kept.refl _ _).alloc _
  have HRY : Hid (Y.heap[R]? = some (.cells #[.int .i64 p.fr, .int .i64 p.ds, .int .i64 p.nu, .bool p.ak, .string (bs p.bd)] 86 (0, 0))) := by rw [hY, HR.out]; exact blk_new _ _
  have HXY : Hid (SyX Gs Y b hb ch hs (some ⟨g, o, none⟩) cw S) := HX.out.kept KY.out
  have HAY : Hid (Y.heap[A]? = _) := KWY.out.block _ _ HAW.out (fun e => e)
  have HRB : Hid (w.heap.size ≤ R ∧ R < Y.heap.size) := ⟨by rw [HR.out]; exact KW.out.size, lt_of_block HRY.out⟩
  clear pe0 pe1 pe2 pe3 pe4 hcell hcat hpe hcs hcm hlc hcur
  clear x inv
  go_enter Tryz.func21, Tryz.ntmps21
  go_upto_region 1 with fail
  rw [← hW, ← HA.out]
  clear hW
  go_upto_region 5 with fail
  rw [← hY, ← HR.out]
  clear hY q0 q1 q2 q3 q4 s1 p0 p3
  have y0 := blk_at HAY.out 0 rfl
  have y1 : Y.cell? ⟨b, 1, none⟩ = some (.slice (some ⟨g, o, none⟩) S.wy.length cw) := blk_at HXY.out.blk 1 rfl
  have hbY : b < Y.heap.size := lt_of_block HXY.out.blk
  have hAY : A < Y.heap.size := lt_of_block HAY.out
  have hRY : R < Y.heap.size := HRB.out.2
  have SR1 : Hid (Src Tryz.prog 5 44 (.slice (some ⟨g, o, none⟩) at' cw) at' (pkCells (S.wy.take at')) Y) := by
    refine Src.ofSlice _ Tryz.underlying44 ⟨g, o, .none⟩ at' cw _ (by rw [pkCells_len, List.length_take, Nat.min_eq_left (by omega)]) (fun j u hj => ?_) (pkCells_one _)
    have h1 : j < at' * 5 := by have := (List.getElem?_eq_some_iff.1 hj).1; rwa [pkCells_len, List.length_take, Nat.min_eq_left (by omega)] at this
    rw [Addr.add_lit, blk_cell (KWY.out.block _ _ HCW.out (fun e => e)), ← hj, pkCells_take, List.getElem?_take, if_pos h1, ← HAT.out _ (by omega)]
  have hc1 := HCS.out
  have hkc : at' ≤ cw := by omega
  have hkci : (at' : Int) ≤ (cw : Int) := by omega
  have hw1 : IntKind.i64.wrap ((at' : Int) + 1) = (at' : Int) + 1 := by rw [IntKind.wrap_i64]; omega
  have hge0 : (0 : Int) ≤ (at' : Int) + 1 := by omega
  have hti : ((at' : Int) + 1).toNat = at' + 1 := by omega
  have hk1n : at' + 1 ≤ S.wy.length := by omega
  have hk1ni : (at' : Int) + 1 ≤ (S.wy.length : Int) := by omega
  have hnc : S.wy.length ≤ cw := hc1.1
  have hnci : (S.wy.length : Int) ≤ (cw : Int) := by omega
  clear hc1
  by_cases hcc : cw = at' + 1
  · have HLE : Hid (S.wy.length = at' + 1) := by show _ = _; omega
    subst hcc
    have SR2 : Hid (∀ X, Kept Nil Y X → Src Tryz.prog 5 44 (.slice (some ⟨g, o, none⟩) 0 0) 0 (pkCells (S.wy.drop (at' + 1))) X) := fun X kX => by
      have e : S.wy.drop (at' + 1) = [] := List.drop_eq_nil_of_le (by have := HCS.out.1; omega)
      rw [e]
      exact Src.ofSlice _ Tryz.underlying44 ⟨g, o, .none⟩ 0 0 _ rfl (fun j u hj => by simp [pkCells] at hj) (fun u hu => by cases hu)
    have HLL1 : Hid (0 + at' ≤ maxLen ∧ (0 + at') * 48 ≤ 140737488355328) := by constructor <;> (try unfold maxLen) <;> omega
    have HLL2 : Hid (at' + 0 ≤ maxLen ∧ (at' + 0) * 48 ≤ 140737488355328) := by constructor <;> (try unfold maxLen) <;> omega
    go_upto_region 9 with (at_builtin; go_must (refine wpList_append_src _ rfl _ _ 44 44 rfl Y.heap.size 86 i2 (.agg #[.int .i64 0, .int .i64 0, .int .i64 0, .bool false, .string ⟨#[]⟩]) 5 48 Tryz.underlying44 hi2 hx0 hx1 hx2 rfl (.slice none 0 0) 0 [] rfl (World.ownsRow_nil _ _ _ _) (.slice (some ⟨g, o, none⟩) at' (at' + 1)) at' (pkCells (S.wy.take at')) rfl SR1.out HLL1.out.1 HLL1.out.2 (Nat.le_refl _) ?_); intro a6 c6 w6 ho6 hg6; simp only [Nat.zero_add, List.nil_append] at ho6; have HO6 : Hid (w6.ownsRow Y.heap.size 86 5 (.slice a6 at' c6) at' (pkCells (S.wy.take at'))) := ho6; have K6 : Hid (Kept Nil Y w6) := (Kept.refl _ _).grown hg6 (fun q hq => by simp [Value.ownBlock] at hq); have t6 : w6.cell? ⟨b, 1, none⟩ = some (.slice (some ⟨g, o, none⟩) S.wy.length (at' + 1)) := cell_kept K6.out (fun _ x => x) y1; have hb6 : b < w6.heap.size := World.block_lt_of_cell? w6 _ t6; clear ho6 hg6)
    (try simp only [Nat.zero_add])
    go_upto_region 10 with (at_builtin; go_must (refine wpList_append_src _ rfl _ _ 44 44 rfl Y.heap.size 86 i2 (.agg #[.int .i64 0, .int .i64 0, .int .i64 0, .bool false, .string ⟨#[]⟩]) 5 48 Tryz.underlying44 hi2 hx0 hx1 hx2 rfl (.slice a6 at' c6) at' (pkCells (S.wy.take at')) rfl HO6.out (.slice (some ⟨g, o, none⟩) 0 0) 0 (pkCells (S.wy.drop (at' + 1))) rfl (SR2.out w6 K6.out) HLL2.out.1 HLL2.out.2 K6.out.size ?_); intro a7 c7 w7 ho7 hg7; have K7 : Hid (Kept Nil Y w7) := K6.out.grown hg7 (fun q hq => own_row HO6.out q hq); have HF : Hid (SyX (famN Gs 10 Y w7) (w7.setCell ⟨b, 1, none⟩ (.slice a7 (at') c7)) b hb ch hs a7 c7 (dropW at' S) ∧ Kept (TG (Gs 10)) Y (w7.setCell ⟨b, 1, none⟩ (.slice a7 (at') c7))) := HXY.out.dropped hat K7.out (by omega) ho7; have HB7 : Hid (w7.heap[b]? = _) := K7.out.block _ _ HXY.out.blk (fun e => e); have e7 := blk_at HB7.out 1 rfl; have f7 : w7.frozen? ⟨b, 1, none⟩ = false := blk_free HB7.out _; have hb7 : b < w7.heap.size := lt_of_block HB7.out; have HR7 : Hid (w7.heap[R]? = some (.cells #[.int .i64 p.fr, .int .i64 p.ds, .int .i64 p.nu, .bool p.ak, .string (bs p.bd)] 86 (0, 0))) := K7.out.block _ _ HRY.out (fun e => e); have HA7 : Hid (w7.heap[A]? = _) := K7.out.block _ _ HAY.out (fun e => e); clear ho7 hg7)
    obtain ⟨V, hV⟩ : ∃ V, V = w7.setCell ⟨b, 1, none⟩ (.slice a7 (at') c7) := ⟨_, rfl⟩
    rw [← hV] at HF ⊢
    have hRb : R ≠ b := fun e => by have h1 := HR7.out; rw [e, HB7.out] at h1; cases h1
    have hAb : A ≠ b := fun e => by have h1 := HA7.out; rw [e, HB7.out] at h1; cases h1
    have HRV : Hid (V.heap[R]? = some (.cells #[.int .i64 p.fr, .int .i64 p.ds, .int .i64 p.nu, .bool p.ak, .string (bs p.bd)] 86 (0, 0))) := by rw [hV]; exact blk_other HR7.out hRb _
    have HAV : Hid (V.heap[A]? = some (.cells #[.int .i64 6, .int .i64 hh, .int .i64 ot, .int .i64 nn, .string (bs ky), .string (bs up), .string (bs vl)] 34 (0, 0))) := by rw [hV]; exact blk_other HA7.out hAb _
    have hw7 : Y.heap.size ≤ w7.heap.size := K7.out.size
    clear hV e7 f7 t6 hb6 hb7
    have v0 := blk_at HAV.out 0 rfl
    have v1 : V.cell? ⟨R, 1, none⟩ = some (.int .i64 p.ds) := blk_at HRV.out 1 rfl
    have vh : V.cell? ⟨b, 0, none⟩ = some (.slice (some ⟨hb, 0, none⟩) S.n ch) := blk_at HF.out.1.blk 0 rfl
    have hbV : b < V.heap.size := lt_of_block HF.out.1.blk
    have hAV : A < V.heap.size := lt_of_block HAV.out
    have hRV : R < V.heap.size := lt_of_block HRV.out
    have HOP : Hid (OkP K M S.n p) := HIn.out.wy p (List.mem_of_getElem? HP.out)
    have hds := HOP.out.ds
    have hn9 := HIn.out.n1.2
    obtain ⟨i, HI⟩ : ∃ i : Nat, Hid (i = p.ds.toNat - 1) := ⟨_, rfl⟩
    have hi : i < S.n := by rw [HI.out]; omega
    have hid : ((i + 1 : Nat) : Int) = p.ds := by rw [HI.out]; omega
    obtain ⟨GG, HGG⟩ : ∃ GG, Hid (GG = famN Gs 10 Y w7) := ⟨_, rfl⟩
    obtain ⟨S1, HS1⟩ : ∃ S1, Hid (S1 = dropW at' S) := ⟨_, rfl⟩
    have HX1 : Hid (SyX GG V b hb ch hs a7 c7 S1) := by rw [HGG.out, HS1.out]; exact HF.out.1
    have HKF : Hid (Kept (TG (Gs 10)) Y V) := HF.out.2
    have HI1 : Hid (Inv K M S1) := by rw [HS1.out]; exact HIn.out.drop at'
    have HN1 : Hid (S1.n = S.n) := by show _ = _; rw [HS1.out]; rfl
    have HGR : Hid (∀ j, ¬ GG j R) := fun j e => by
      rw [HGG.out] at e
      rcases (famN_sub e : Gs j R ∨ Y.heap.size ≤ R) with h | h
      · have := HX.out.lt _ _ h
        have := HRB.out.1
        omega
      · have := HRB.out.2
        omega
    have HGS : Hid (∀ j g, GG j g → Gs j g ∨ Y.heap.size ≤ g) := fun j g e => by
      rw [HGG.out] at e
      exact famN_sub e
    obtain ⟨h, Hh⟩ : ∃ h, Hid (h = S1.ho i) := ⟨_, rfl⟩
    obtain ⟨rb, ay, cy, ai, ci, gk, ck, y⟩ := HX1.out.ho i (by rw [HN1.out]; exact hi)
    rw [hid, ← Hh.out] at y
    have HOK : Hid (OkH K M h) := by rw [Hh.out]; exact HI1.out.ho i (by rw [HN1.out]; exact hi)
    have HY : Hid (HyX (GG i) V (hs i) rb p.ds ay cy ai ci gk ck h) := y
    have hwr1 : IntKind.i64.wrap (p.ds - 1) = (i : Int) := by rw [IntKind.wrap_i64]; omega
    have hii : (i : Int) < (S.n : Int) := by omega
    have hgt : decide (p.ds > (S.n : Int)) = false := decide_eq_false (by omega)
    have hgt2 : decide ((S.n : Int) < p.ds) = false := decide_eq_false (by omega)
    have HLT : Hid (∀ j g, GG j g → g < V.heap.size) := HX1.out.lt
    clear y hid hds HF
    go_quiet (fail)
    rename Nat => nq
    obtain ⟨V1, hV1⟩ : ∃ V1, V1 = V.drewN nq := ⟨_, rfl⟩
    have KV1 : Hid (Kept Nil V V1) := by rw [hV1]; exact (Kept.refl _ _).drewN _
    rw [← hV1]
    clear hV1 v0 v1 vh hbV hAV hRV
    have HR1 : Hid (V1.heap[R]? = some (.cells #[.int .i64 p.fr, .int .i64 p.ds, .int .i64 p.nu, .bool p.ak, .string (bs p.bd)] 86 (0, 0))) := KV1.out.block _ _ HRV.out (fun e => e)
    have HXV1 : Hid (SyX GG V1 b hb ch hs a7 c7 S1) := HX1.out.kept KV1.out
    have u0 : V1.cell? ⟨b, 0, none⟩ = some (.slice (some ⟨hb, 0, none⟩) S.n ch) := by rw [← HN1.out]; exact blk_at HXV1.out.blk 0 rfl
    have u1 : V1.cell? ⟨R, 1, none⟩ = some (.int .i64 p.ds) := blk_at HR1.out 1 rfl
    have u2 : V1.cell? ⟨hb, i, none⟩ = some (.pointer (some ⟨hs i, 0, none⟩)) := HXV1.out.at (by rw [HN1.out]; exact hi)
    have l0 : b < V1.heap.size := lt_of_block HXV1.out.blk
    have l1 : R < V1.heap.size := lt_of_block HR1.out
    have l2 : hb < V1.heap.size := World.block_lt_of_cell? V1 _ u2
    go_upto_region 11 with fail
    go_quiet (fail)
    rename Nat => nq2
    obtain ⟨V2, hV2⟩ : ∃ V2, V2 = V1.drewN nq2 := ⟨_, rfl⟩
    have KV12 : Hid (Kept Nil V1 V2) := by rw [hV2]; exact (Kept.refl _ _).drewN _
    rw [← hV2]
    clear hV2 u0 u1 u2 l0 l1 l2
    have KV2 : Hid (Kept Nil V V2) := KV1.out.trans KV12.out
    have HR2 : Hid (V2.heap[R]? = some (.cells #[.int .i64 p.fr, .int .i64 p.ds, .int .i64 p.nu, .bool p.ak, .string (bs p.bd)] 86 (0, 0))) := KV12.out.block _ _ HR1.out (fun e => e)
    have HYV : Hid (HyX (GG i) V2 (hs i) rb p.ds ay cy ai ci gk ck h) := HY.out.kept KV2.out
    have RC := recvY_any K M S.n (GG i) (hs i) rb ci gk ck p.ds ay cy ai h p V2.drew (HYV.out.kept (Kept.refl _ _).drew) HOK.out HOP.out (fun g hg => Nat.lt_of_lt_of_le (HLT.out i g hg) KV2.out.size) hM
    obtain ⟨coms, HCo⟩ : ∃ coms, Hid (coms = cmsH p.ds p h) := ⟨_, rfl⟩
    obtain ⟨acks, HAc⟩ : ∃ acks, Hid (acks = aksH p.ds p h) := ⟨_, rfl⟩
    obtain ⟨h1, Hh1⟩ : ∃ h1, Hid (h1 = rcvH p.ds p h) := ⟨_, rfl⟩
    rw [← HCo.out, ← HAc.out, ← Hh1.out] at RC
    unfold pkV at RC
    have e0 : V2.cell? ⟨hs i, 0, none⟩ = some (.pointer (some ⟨rb, 0, none⟩)) := blk_at HYV.out.ho 0 rfl
    have q0 : V2.cell? ⟨R, 0, none⟩ = some (.int .i64 p.fr) := blk_at HR2.out 0 rfl
    have q1 : V2.cell? ⟨R, 1, none⟩ = some (.int .i64 p.ds) := blk_at HR2.out 1 rfl
    have q2 : V2.cell? ⟨R, 2, none⟩ = some (.int .i64 p.nu) := blk_at HR2.out 2 rfl
    have q3 : V2.cell? ⟨R, 3, none⟩ = some (.bool p.ak) := blk_at HR2.out 3 rfl
    have q4 : V2.cell? ⟨R, 4, none⟩ = some (.string (bs p.bd)) := blk_at HR2.out 4 rfl
    have hAV : R < V2.heap.size := lt_of_block HR2.out
    have hhV : hs i < V2.heap.size := lt_of_block HYV.out.ho
    go_upto_region 12 with fail
    go_cut [9, 10] (fun x9 x10 w5 => ∃ G' a1 c1 a2 c2, x9 = .slice a1 coms.length c1 ∧ x10 = .slice a2 acks.length c2 ∧ Hid (RcvZ (GG i) G' V2 w5 (hs i) p.ds h1 coms acks a1 c1 a2 c2))
    case first =>
      go_region_with (go_at_call 43; go_must (go_fit RC); rintro e w5 ⟨G', a1, c1, a2, c2, rfl, z⟩; have HR5 : Hid (RcvZ (GG i) G' V2 w5 (hs i) p.ds h1 coms acks a1 c1 a2 c2) := ⟨z.pc, z.ho, (Kept.refl _ _).drew.trans z.kw, z.sub, z.no, z.src⟩; clear z)
      all_goals
        go_wp2
        go_meet
        exact ⟨G', a1, c1, a2, c2, rfl, rfl, HR5.out⟩
    case rest =>
      rename World => w5
      obtain ⟨G', a1, c1, a2, c2, rfl, rfl, HZ5⟩ := hcut
      clear RC e0 q0 q1 q2 q3 q4
      apply_assumption
      obtain ⟨Gi, HGi⟩ : ∃ Gi : Nat → Prop, Hid (Gi = GN G' w5) := ⟨_, rfl⟩
      have HUP : Hid (∀ wk : World, w5.heap.size ≤ wk.heap.size → ∀ g, GN Gi wk g → Gi g) := fun wk hwk g hg => by
        rw [HGi.out] at hg ⊢
        exact gn_gn hwk hg
      have HXi : Hid (HyM Gi w5 (hs i) p.ds h1) := by rw [HGi.out]; exact HZ5.out.ho.up (fun g hg => .inl hg)
      have HSB : Hid (∀ g, Gi g → GN (GG i) V g) := fun g e => by
        rw [HGi.out] at e
        rcases e with e | e
        · rcases HZ5.out.sub g e with e | e
          · exact .inl e
          · exact .inr (Nat.le_trans KV2.out.size e)
        · exact .inr (Nat.le_trans (Nat.le_trans KV2.out.size HZ5.out.kw.size) e)
      have HO1k : Hid (∀ wr, Kept (TG Gi) w5 wr → OwnPc V2.heap.size wr a1 c1 coms) := fun wr hk => own_keptG HZ5.out.pc hk (fun g _ hg e => by
        have e2 : Gi g := e
        rw [HGi.out] at e2
        rcases e2 with e2 | e2
        · exact HZ5.out.no g hg e2
        · have := (World.ownsRow.lt HZ5.out.pc g hg).2
          omega)
      have HSR : Hid (∀ wr, Kept (TG Gi) w5 wr → Src Tryz.prog 5 44 (.slice a2 acks.length c2) acks.length (pkCells acks) wr) := fun wr hk => HZ5.out.src wr (by rw [← HGi.out]; exact hk)
      have HOK1 : Hid (OkH K M h1) := by rw [Hh1.out]; exact HOK.out.rcv HOP.out p.ds
      have HC1 : Hid (coms = [] ∨ (p.ak = false ∧ coms = [⟨p.fr, p.bd⟩])) := by rw [HCo.out]; exact cms_one
      have HKL : Hid (K.length ≤ M) := HIn.out.kl
      go_wp2
      go_loopw [11] (fun u wr => ∃ k : Nat, k ≤ coms.length ∧ u = .int .i64 k ∧ Hid (HyM Gi wr (hs i) p.ds (takesH p.ds (coms.take k) h1)) ∧ Hid (Kept (TG Gi) w5 wr)) (fun u _ => coms.length - (intOf u).toNat)
      case atStart => exact ⟨0, Nat.zero_le _, rfl, HXi.out, Kept.refl _ _⟩
      case round =>
        obtain ⟨k, hk, rfl, HXk, HKk⟩ := hrel
        by_cases hlt : k < coms.length
        · have hli : (k : Int) < (coms.length : Int) := by omega
          have hmx : (k : Int) + 1 ≤ 100 := by
            rcases HC1.out with e | ⟨_, e⟩ <;> (rw [e] at hlt; simp at hlt)
            omega
          have hk0 : k = 0 ∧ coms = [⟨p.fr, p.bd⟩] ∧ p.ak = false := by
            rcases HC1.out with e | ⟨e1, e⟩
            · rw [e] at hlt; simp at hlt
            · rw [e] at hlt; simp at hlt; exact ⟨hlt, e, e1⟩
          obtain ⟨g, eg, -, -, c0, c1', -, -⟩ := (HO1k.out wr HKk.out).cells hlt
          subst eg
          obtain ⟨z, HZ⟩ : ∃ z : Pc, Hid (z = coms[k]) := ⟨coms[k], (rfl : coms[k] = coms[k])⟩
          rw [← HZ.out] at c0 c1'
          have HZB : Hid (z.bd = p.bd) := by
            show _ = _
            obtain ⟨rfl, e, _⟩ := hk0
            rw [HZ.out]
            simp [e]
          have HT0 : Hid (takesH p.ds (coms.take k) h1 = h1) := by show _ = _; rw [hk0.1]; rfl
          have HT1 : Hid (takesH p.ds (coms.take (k + 1)) h1 = takeHd p.ds z.bd h1) := by
            show _ = _
            rw [HZB.out, hk0.1, hk0.2.1]
            rfl
          have HGB : Hid (GoodB K z.bd) := by rw [HZB.out]; exact HOP.out.bd hk0.2.2
          clear hk0
          have HX6 : Hid (HyM Gi wr (hs i) p.ds h1) := by have := HXk.out; rwa [HT0.out] at this
          have TK := takeY_any K M Gi (hs i) p.ds h1 z.bd wr HX6.out HOK1.out HGB.out HKL.out hM
          go_upto_region 16 with fail
          go_wp2_with fail
          go_fit TK
          rintro e w7 ⟨rfl, x7, k7⟩
          have HX7 : Hid (HyM Gi w7 (hs i) p.ds (takesH p.ds (coms.take (k + 1)) h1)) := by rw [HT1.out]; exact x7.up (HUP.out wr HKk.out.size)
          have HK7 : Hid (Kept (TG Gi) w5 w7) := HKk.out.trans k7
          clear TK x7 k7
          go_wp2
          go_roundw
          case rel => exact ⟨k + 1, by omega, by congr 1, HX7.out, HK7.out⟩
          case measure => simp [intOf]; omega
        · obtain rfl : k = coms.length := by omega
          have HTk : Hid (takesH p.ds (coms.take coms.length) h1 = comeH p.ds p h) := by show _ = _; rw [List.take_length, HCo.out, Hh1.out]; rfl
          have HXe : Hid (HyM (GN (GG i) V) wr (hs i) (i + 1 : Nat) (comeH p.ds p h)) := by
            have h2 : ((i + 1 : Nat) : Int) = p.ds := by have := HOP.out.ds; have := HI.out; omega
            have h3 := HXk.out
            rw [HTk.out] at h3
            rw [h2]
            exact h3.up HSB.out
          have HKe : Hid (Kept (TG (GG i)) V wr) := Kept.next (KV2.out.nilG.trans HZ5.out.kw) (HKk.out.upG HSB.out)
          have HXr := HX1.out.host (show i < S1.n by rw [HN1.out]; exact hi) HXe.out HKe.out
          obtain ⟨T1, HT1⟩ : ∃ T1, Hid (T1 = putH S1 i (comeH p.ds p h)) := ⟨_, rfl⟩
          rw [← HT1.out] at HXr
          have HXR : Hid (SyX (famN GG i V wr) wr b hb ch hs a7 c7 T1) := HXr
          clear HXr
          have HCS : Hid (comesS p S1 = { T1 with wy := T1.wy ++ acks }) := by show _ = _; rw [HT1.out, HAc.out, Hh.out, HI.out]; rfl
          have HTW : Hid (T1.wy.length ≤ 160 * M) := by rw [HT1.out]; exact HI1.out.wl
          have HAL : Hid (acks.length ≤ 1) := by rw [HAc.out]; exact aks_len _ _ _
          have HLL : Hid (T1.wy.length + acks.length ≤ maxLen ∧ (T1.wy.length + acks.length) * 48 ≤ 140737488355328) := by
            have h1 := HTW.out
            have h2 := HAL.out
            constructor <;> (try unfold maxLen) <;> omega
          have SR := HSR.out wr HKk.out
          have s1 : wr.cell? ⟨b, 1, none⟩ = some (.slice a7 T1.wy.length c7) := blk_at HXR.out.blk 1 rfl
          have hbr : b < wr.heap.size := lt_of_block HXR.out.blk
          go_wp2_with (at_builtin; go_must (refine wpList_append_row _ rfl _ _ 44 44 rfl 86 i2 (.agg #[.int .i64 0, .int .i64 0, .int .i64 0, .bool false, .string ⟨#[]⟩]) 5 48 Tryz.underlying44 hi2 hx0 hx1 hx2 rfl (.slice a7 T1.wy.length c7) T1.wy.length (pkCells T1.wy) rfl HXR.out.wy (.slice a2 acks.length c2) acks.length (pkCells acks) rfl SR HLL.out.1 HLL.out.2 ?_); intro a9 c9 w9 r9 g9 t9; have HFF : Hid (SyPost (famN GG i V wr) wr b hb ch hs { T1 with wy := T1.wy ++ acks } (w9.setCell ⟨b, 1, none⟩ (.slice a9 (T1.wy.length + acks.length) c9))) := HXR.out.more (Kept.refl _ _) r9 g9 t9; have s9 : w9.heap[b]? = some (.cells #[.slice (some ⟨hb, 0, none⟩) T1.n ch, .slice a7 T1.wy.length c7] 56 (0, 0)) := (by rw [g9.block b hbr (fun e => by obtain ⟨_, e2⟩ := HXR.out.wy.tp e.symm HXR.out.blk; cases e2)]; exact HXR.out.blk); have e9 : w9.cell? ⟨b, 1, none⟩ = some (.slice a7 T1.wy.length c7) := blk_at s9 1 rfl; have f9 : w9.frozen? ⟨b, 1, none⟩ = false := blk_free s9 _; clear r9 g9 t9 s9)
          go_end0
          rw [HTe.out, ← HS1.out, HCS.out]
          exact ⟨rfl, SyPost.trans (fun _ _ hg => .inl hg) (KY.out.mono (fun _ _ e => e.elim)) (SyPost.trans (Gs1 := GG) (w1 := V) (fun j g hg => HGS.out j g hg) (HKF.out.mono (fun _ _ e => ⟨10, e⟩)) (SyPost.trans (Gs1 := famN GG i V wr) (w1 := wr) (fun _ _ hg => famN_sub hg) (HKe.out.mono (fun _ _ e => ⟨i, e⟩)) HFF.out))⟩

  · have SR2 : Hid (∀ X, Kept Nil Y X → Src Tryz.prog 5 44 (.slice (some ⟨g, o + (at' + 1) * 5, none⟩) (S.wy.length - (at' + 1)) (cw - (at' + 1))) (S.wy.length - (at' + 1)) (pkCells (S.wy.drop (at' + 1))) X) := fun X kX => by
      refine Src.ofSlice _ Tryz.underlying44 ⟨g, o + (at' + 1) * 5, .none⟩ _ _ _ (by rw [pkCells_len, List.length_drop]) (fun j u hj => ?_) (pkCells_one _)
      have h1 : j < (S.wy.length - (at' + 1)) * 5 := by have := (List.getElem?_eq_some_iff.1 hj).1; rwa [pkCells_len, List.length_drop] at this
      rw [Addr.add_lit, blk_cell (kX.block _ _ (KWY.out.block _ _ HCW.out (fun e => e)) (fun e => e)), ← hj, pkCells_drop, List.getElem?_drop, ← HAT.out _ (by omega)]
      congr 1; omega
    have HLL1 : Hid (0 + at' ≤ maxLen ∧ (0 + at') * 48 ≤ 140737488355328) := by constructor <;> (try unfold maxLen) <;> omega
    have HLL2 : Hid (at' + (S.wy.length - (at' + 1)) ≤ maxLen ∧ (at' + (S.wy.length - (at' + 1))) * 48 ≤ 140737488355328) := by constructor <;> (try unfold maxLen) <;> omega
    go_upto_region 9 with (at_builtin; go_must (refine wpList_append_src _ rfl _ _ 44 44 rfl Y.heap.size 86 i2 (.agg #[.int .i64 0, .int .i64 0, .int .i64 0, .bool false, .string ⟨#[]⟩]) 5 48 Tryz.underlying44 hi2 hx0 hx1 hx2 rfl (.slice none 0 0) 0 [] rfl (World.ownsRow_nil _ _ _ _) (.slice (some ⟨g, o, none⟩) at' cw) at' (pkCells (S.wy.take at')) rfl SR1.out HLL1.out.1 HLL1.out.2 (Nat.le_refl _) ?_); intro a6 c6 w6 ho6 hg6; simp only [Nat.zero_add, List.nil_append] at ho6; have HO6 : Hid (w6.ownsRow Y.heap.size 86 5 (.slice a6 at' c6) at' (pkCells (S.wy.take at'))) := ho6; have K6 : Hid (Kept Nil Y w6) := (Kept.refl _ _).grown hg6 (fun q hq => by simp [Value.ownBlock] at hq); have t6 : w6.cell? ⟨b, 1, none⟩ = some (.slice (some ⟨g, o, none⟩) S.wy.length cw) := cell_kept K6.out (fun _ x => x) y1; have hb6 : b < w6.heap.size := World.block_lt_of_cell? w6 _ t6; clear ho6 hg6)
    (try simp only [Nat.zero_add])
    go_upto_region 10 with (at_builtin; go_must (refine wpList_append_src _ rfl _ _ 44 44 rfl Y.heap.size 86 i2 (.agg #[.int .i64 0, .int .i64 0, .int .i64 0, .bool false, .string ⟨#[]⟩]) 5 48 Tryz.underlying44 hi2 hx0 hx1 hx2 rfl (.slice a6 at' c6) at' (pkCells (S.wy.take at')) rfl HO6.out (.slice (some ⟨g, o + (at' + 1) * 5, none⟩) (S.wy.length - (at' + 1)) (cw - (at' + 1))) (S.wy.length - (at' + 1)) (pkCells (S.wy.drop (at' + 1))) rfl (SR2.out w6 K6.out) HLL2.out.1 HLL2.out.2 K6.out.size ?_); intro a7 c7 w7 ho7 hg7; have K7 : Hid (Kept Nil Y w7) := K6.out.grown hg7 (fun q hq => own_row HO6.out q hq); have HF : Hid (SyX (famN Gs 10 Y w7) (w7.setCell ⟨b, 1, none⟩ (.slice a7 (at' + (S.wy.length - (at' + 1))) c7)) b hb ch hs a7 c7 (dropW at' S) ∧ Kept (TG (Gs 10)) Y (w7.setCell ⟨b, 1, none⟩ (.slice a7 (at' + (S.wy.length - (at' + 1))) c7))) := HXY.out.dropped hat K7.out (by omega) ho7; have HB7 : Hid (w7.heap[b]? = _) := K7.out.block _ _ HXY.out.blk (fun e => e); have e7 := blk_at HB7.out 1 rfl; have f7 : w7.frozen? ⟨b, 1, none⟩ = false := blk_free HB7.out _; have hb7 : b < w7.heap.size := lt_of_block HB7.out; have HR7 : Hid (w7.heap[R]? = some (.cells #[.int .i64 p.fr, .int .i64 p.ds, .int .i64 p.nu, .bool p.ak, .string (bs p.bd)] 86 (0, 0))) := K7.out.block _ _ HRY.out (fun e => e); have HA7 : Hid (w7.heap[A]? = _) := K7.out.block _ _ HAY.out (fun e => e); clear ho7 hg7)
    obtain ⟨V, hV⟩ : ∃ V, V = w7.setCell ⟨b, 1, none⟩ (.slice a7 (at' + (S.wy.length - (at' + 1))) c7) := ⟨_, rfl⟩
    rw [← hV] at HF ⊢
    have hRb : R ≠ b := fun e => by have h1 := HR7.out; rw [e, HB7.out] at h1; cases h1
    have hAb : A ≠ b := fun e => by have h1 := HA7.out; rw [e, HB7.out] at h1; cases h1
    have HRV : Hid (V.heap[R]? = some (.cells #[.int .i64 p.fr, .int .i64 p.ds, .int .i64 p.nu, .bool p.ak, .string (bs p.bd)] 86 (0, 0))) := by rw [hV]; exact blk_other HR7.out hRb _
    have HAV : Hid (V.heap[A]? = some (.cells #[.int .i64 6, .int .i64 hh, .int .i64 ot, .int .i64 nn, .string (bs ky), .string (bs up), .string (bs vl)] 34 (0, 0))) := by rw [hV]; exact blk_other HA7.out hAb _
    have hw7 : Y.heap.size ≤ w7.heap.size := K7.out.size
    clear hV e7 f7 t6 hb6 hb7
    have v0 := blk_at HAV.out 0 rfl
    have v1 : V.cell? ⟨R, 1, none⟩ = some (.int .i64 p.ds) := blk_at HRV.out 1 rfl
    have vh : V.cell? ⟨b, 0, none⟩ = some (.slice (some ⟨hb, 0, none⟩) S.n ch) := blk_at HF.out.1.blk 0 rfl
    have hbV : b < V.heap.size := lt_of_block HF.out.1.blk
    have hAV : A < V.heap.size := lt_of_block HAV.out
    have hRV : R < V.heap.size := lt_of_block HRV.out
    have HOP : Hid (OkP K M S.n p) := HIn.out.wy p (List.mem_of_getElem? HP.out)
    have hds := HOP.out.ds
    have hn9 := HIn.out.n1.2
    obtain ⟨i, HI⟩ : ∃ i : Nat, Hid (i = p.ds.toNat - 1) := ⟨_, rfl⟩
    have hi : i < S.n := by rw [HI.out]; omega
    have hid : ((i + 1 : Nat) : Int) = p.ds := by rw [HI.out]; omega
    obtain ⟨GG, HGG⟩ : ∃ GG, Hid (GG = famN Gs 10 Y w7) := ⟨_, rfl⟩
    obtain ⟨S1, HS1⟩ : ∃ S1, Hid (S1 = dropW at' S) := ⟨_, rfl⟩
    have HX1 : Hid (SyX GG V b hb ch hs a7 c7 S1) := by rw [HGG.out, HS1.out]; exact HF.out.1
    have HKF : Hid (Kept (TG (Gs 10)) Y V) := HF.out.2
    have HI1 : Hid (Inv K M S1) := by rw [HS1.out]; exact HIn.out.drop at'
    have HN1 : Hid (S1.n = S.n) := by show _ = _; rw [HS1.out]; rfl
    have HGR : Hid (∀ j, ¬ GG j R) := fun j e => by
      rw [HGG.out] at e
      rcases (famN_sub e : Gs j R ∨ Y.heap.size ≤ R) with h | h
      · have := HX.out.lt _ _ h
        have := HRB.out.1
        omega
      · have := HRB.out.2
        omega
    have HGS : Hid (∀ j g, GG j g → Gs j g ∨ Y.heap.size ≤ g) := fun j g e => by
      rw [HGG.out] at e
      exact famN_sub e
    obtain ⟨h, Hh⟩ : ∃ h, Hid (h = S1.ho i) := ⟨_, rfl⟩
    obtain ⟨rb, ay, cy, ai, ci, gk, ck, y⟩ := HX1.out.ho i (by rw [HN1.out]; exact hi)
    rw [hid, ← Hh.out] at y
    have HOK : Hid (OkH K M h) := by rw [Hh.out]; exact HI1.out.ho i (by rw [HN1.out]; exact hi)
    have HY : Hid (HyX (GG i) V (hs i) rb p.ds ay cy ai ci gk ck h) := y
    have hwr1 : IntKind.i64.wrap (p.ds - 1) = (i : Int) := by rw [IntKind.wrap_i64]; omega
    have hii : (i : Int) < (S.n : Int) := by omega
    have hgt : decide (p.ds > (S.n : Int)) = false := decide_eq_false (by omega)
    have hgt2 : decide ((S.n : Int) < p.ds) = false := decide_eq_false (by omega)
    have HLT : Hid (∀ j g, GG j g → g < V.heap.size) := HX1.out.lt
    clear y hid hds HF
    go_quiet (fail)
    rename Nat => nq
    obtain ⟨V1, hV1⟩ : ∃ V1, V1 = V.drewN nq := ⟨_, rfl⟩
    have KV1 : Hid (Kept Nil V V1) := by rw [hV1]; exact (Kept.refl _ _).drewN _
    rw [← hV1]
    clear hV1 v0 v1 vh hbV hAV hRV
    have HR1 : Hid (V1.heap[R]? = some (.cells #[.int .i64 p.fr, .int .i64 p.ds, .int .i64 p.nu, .bool p.ak, .string (bs p.bd)] 86 (0, 0))) := KV1.out.block _ _ HRV.out (fun e => e)
    have HXV1 : Hid (SyX GG V1 b hb ch hs a7 c7 S1) := HX1.out.kept KV1.out
    have u0 : V1.cell? ⟨b, 0, none⟩ = some (.slice (some ⟨hb, 0, none⟩) S.n ch) := by rw [← HN1.out]; exact blk_at HXV1.out.blk 0 rfl
    have u1 : V1.cell? ⟨R, 1, none⟩ = some (.int .i64 p.ds) := blk_at HR1.out 1 rfl
    have u2 : V1.cell? ⟨hb, i, none⟩ = some (.pointer (some ⟨hs i, 0, none⟩)) := HXV1.out.at (by rw [HN1.out]; exact hi)
    have l0 : b < V1.heap.size := lt_of_block HXV1.out.blk
    have l1 : R < V1.heap.size := lt_of_block HR1.out
    have l2 : hb < V1.heap.size := World.block_lt_of_cell? V1 _ u2
    go_upto_region 11 with fail
    go_quiet (fail)
    rename Nat => nq2
    obtain ⟨V2, hV2⟩ : ∃ V2, V2 = V1.drewN nq2 := ⟨_, rfl⟩
    have KV12 : Hid (Kept Nil V1 V2) := by rw [hV2]; exact (Kept.refl _ _).drewN _
    rw [← hV2]
    clear hV2 u0 u1 u2 l0 l1 l2
    have KV2 : Hid (Kept Nil V V2) := KV1.out.trans KV12.out
    have HR2 : Hid (V2.heap[R]? = some (.cells #[.int .i64 p.fr, .int .i64 p.ds, .int .i64 p.nu, .bool p.ak, .string (bs p.bd)] 86 (0, 0))) := KV12.out.block _ _ HR1.out (fun e => e)
    have HYV : Hid (HyX (GG i) V2 (hs i) rb p.ds ay cy ai ci gk ck h) := HY.out.kept KV2.out
    have RC := recvY_any K M S.n (GG i) (hs i) rb ci gk ck p.ds ay cy ai h p V2.drew (HYV.out.kept (Kept.refl _ _).drew) HOK.out HOP.out (fun g hg => Nat.lt_of_lt_of_le (HLT.out i g hg) KV2.out.size) hM
    obtain ⟨coms, HCo⟩ : ∃ coms, Hid (coms = cmsH p.ds p h) := ⟨_, rfl⟩
    obtain ⟨acks, HAc⟩ : ∃ acks, Hid (acks = aksH p.ds p h) := ⟨_, rfl⟩
    obtain ⟨h1, Hh1⟩ : ∃ h1, Hid (h1 = rcvH p.ds p h) := ⟨_, rfl⟩
    rw [← HCo.out, ← HAc.out, ← Hh1.out] at RC
    unfold pkV at RC
    have e0 : V2.cell? ⟨hs i, 0, none⟩ = some (.pointer (some ⟨rb, 0, none⟩)) := blk_at HYV.out.ho 0 rfl
    have q0 : V2.cell? ⟨R, 0, none⟩ = some (.int .i64 p.fr) := blk_at HR2.out 0 rfl
    have q1 : V2.cell? ⟨R, 1, none⟩ = some (.int .i64 p.ds) := blk_at HR2.out 1 rfl
    have q2 : V2.cell? ⟨R, 2, none⟩ = some (.int .i64 p.nu) := blk_at HR2.out 2 rfl
    have q3 : V2.cell? ⟨R, 3, none⟩ = some (.bool p.ak) := blk_at HR2.out 3 rfl
    have q4 : V2.cell? ⟨R, 4, none⟩ = some (.string (bs p.bd)) := blk_at HR2.out 4 rfl
    have hAV : R < V2.heap.size := lt_of_block HR2.out
    have hhV : hs i < V2.heap.size := lt_of_block HYV.out.ho
    go_upto_region 12 with fail
    go_cut [9, 10] (fun x9 x10 w5 => ∃ G' a1 c1 a2 c2, x9 = .slice a1 coms.length c1 ∧ x10 = .slice a2 acks.length c2 ∧ Hid (RcvZ (GG i) G' V2 w5 (hs i) p.ds h1 coms acks a1 c1 a2 c2))
    case first =>
      go_region_with (go_at_call 43; go_must (go_fit RC); rintro e w5 ⟨G', a1, c1, a2, c2, rfl, z⟩; have HR5 : Hid (RcvZ (GG i) G' V2 w5 (hs i) p.ds h1 coms acks a1 c1 a2 c2) := ⟨z.pc, z.ho, (Kept.refl _ _).drew.trans z.kw, z.sub, z.no, z.src⟩; clear z)
      all_goals
        go_wp2
        go_meet
        exact ⟨G', a1, c1, a2, c2, rfl, rfl, HR5.out⟩
    case rest =>
      rename World => w5
      obtain ⟨G', a1, c1, a2, c2, rfl, rfl, HZ5⟩ := hcut
      clear RC e0 q0 q1 q2 q3 q4
      apply_assumption
      obtain ⟨Gi, HGi⟩ : ∃ Gi : Nat → Prop, Hid (Gi = GN G' w5) := ⟨_, rfl⟩
      have HUP : Hid (∀ wk : World, w5.heap.size ≤ wk.heap.size → ∀ g, GN Gi wk g → Gi g) := fun wk hwk g hg => by
        rw [HGi.out] at hg ⊢
        exact gn_gn hwk hg
      have HXi : Hid (HyM Gi w5 (hs i) p.ds h1) := by rw [HGi.out]; exact HZ5.out.ho.up (fun g hg => .inl hg)
      have HSB : Hid (∀ g, Gi g → GN (GG i) V g) := fun g e => by
        rw [HGi.out] at e
        rcases e with e | e
        · rcases HZ5.out.sub g e with e | e
          · exact .inl e
          · exact .inr (Nat.le_trans KV2.out.size e)
        · exact .inr (Nat.le_trans (Nat.le_trans KV2.out.size HZ5.out.kw.size) e)
      have HO1k : Hid (∀ wr, Kept (TG Gi) w5 wr → OwnPc V2.heap.size wr a1 c1 coms) := fun wr hk => own_keptG HZ5.out.pc hk (fun g _ hg e => by
        have e2 : Gi g := e
        rw [HGi.out] at e2
        rcases e2 with e2 | e2
        · exact HZ5.out.no g hg e2
        · have := (World.ownsRow.lt HZ5.out.pc g hg).2
          omega)
      have HSR : Hid (∀ wr, Kept (TG Gi) w5 wr → Src Tryz.prog 5 44 (.slice a2 acks.length c2) acks.length (pkCells acks) wr) := fun wr hk => HZ5.out.src wr (by rw [← HGi.out]; exact hk)
      have HOK1 : Hid (OkH K M h1) := by rw [Hh1.out]; exact HOK.out.rcv HOP.out p.ds
      have HC1 : Hid (coms = [] ∨ (p.ak = false ∧ coms = [⟨p.fr, p.bd⟩])) := by rw [HCo.out]; exact cms_one
      have HKL : Hid (K.length ≤ M) := HIn.out.kl
      go_wp2
      go_loopw [11] (fun u wr => ∃ k : Nat, k ≤ coms.length ∧ u = .int .i64 k ∧ Hid (HyM Gi wr (hs i) p.ds (takesH p.ds (coms.take k) h1)) ∧ Hid (Kept (TG Gi) w5 wr)) (fun u _ => coms.length - (intOf u).toNat)
      case atStart => exact ⟨0, Nat.zero_le _, rfl, HXi.out, Kept.refl _ _⟩
      case round =>
        obtain ⟨k, hk, rfl, HXk, HKk⟩ := hrel
        by_cases hlt : k < coms.length
        · have hli : (k : Int) < (coms.length : Int) := by omega
          have hmx : (k : Int) + 1 ≤ 100 := by
            rcases HC1.out with e | ⟨_, e⟩ <;> (rw [e] at hlt; simp at hlt)
            omega
          have hk0 : k = 0 ∧ coms = [⟨p.fr, p.bd⟩] ∧ p.ak = false := by
            rcases HC1.out with e | ⟨e1, e⟩
            · rw [e] at hlt; simp at hlt
            · rw [e] at hlt; simp at hlt; exact ⟨hlt, e, e1⟩
          obtain ⟨g, eg, -, -, c0, c1', -, -⟩ := (HO1k.out wr HKk.out).cells hlt
          subst eg
          obtain ⟨z, HZ⟩ : ∃ z : Pc, Hid (z = coms[k]) := ⟨coms[k], (rfl : coms[k] = coms[k])⟩
          rw [← HZ.out] at c0 c1'
          have HZB : Hid (z.bd = p.bd) := by
            show _ = _
            obtain ⟨rfl, e, _⟩ := hk0
            rw [HZ.out]
            simp [e]
          have HT0 : Hid (takesH p.ds (coms.take k) h1 = h1) := by show _ = _; rw [hk0.1]; rfl
          have HT1 : Hid (takesH p.ds (coms.take (k + 1)) h1 = takeHd p.ds z.bd h1) := by
            show _ = _
            rw [HZB.out, hk0.1, hk0.2.1]
            rfl
          have HGB : Hid (GoodB K z.bd) := by rw [HZB.out]; exact HOP.out.bd hk0.2.2
          clear hk0
          have HX6 : Hid (HyM Gi wr (hs i) p.ds h1) := by have := HXk.out; rwa [HT0.out] at this
          have TK := takeY_any K M Gi (hs i) p.ds h1 z.bd wr HX6.out HOK1.out HGB.out HKL.out hM
          go_upto_region 16 with fail
          go_wp2_with fail
          go_fit TK
          rintro e w7 ⟨rfl, x7, k7⟩
          have HX7 : Hid (HyM Gi w7 (hs i) p.ds (takesH p.ds (coms.take (k + 1)) h1)) := by rw [HT1.out]; exact x7.up (HUP.out wr HKk.out.size)
          have HK7 : Hid (Kept (TG Gi) w5 w7) := HKk.out.trans k7
          clear TK x7 k7
          go_wp2
          go_roundw
          case rel => exact ⟨k + 1, by omega, by congr 1, HX7.out, HK7.out⟩
          case measure => simp [intOf]; omega
        · obtain rfl : k = coms.length := by omega
          have HTk : Hid (takesH p.ds (coms.take coms.length) h1 = comeH p.ds p h) := by show _ = _; rw [List.take_length, HCo.out, Hh1.out]; rfl
          have HXe : Hid (HyM (GN (GG i) V) wr (hs i) (i + 1 : Nat) (comeH p.ds p h)) := by
            have h2 : ((i + 1 : Nat) : Int) = p.ds := by have := HOP.out.ds; have := HI.out; omega
            have h3 := HXk.out
            rw [HTk.out] at h3
            rw [h2]
            exact h3.up HSB.out
          have HKe : Hid (Kept (TG (GG i)) V wr) := Kept.next (KV2.out.nilG.trans HZ5.out.kw) (HKk.out.upG HSB.out)
          have HXr := HX1.out.host (show i < S1.n by rw [HN1.out]; exact hi) HXe.out HKe.out
          obtain ⟨T1, HT1⟩ : ∃ T1, Hid (T1 = putH S1 i (comeH p.ds p h)) := ⟨_, rfl⟩
          rw [← HT1.out] at HXr
          have HXR : Hid (SyX (famN GG i V wr) wr b hb ch hs a7 c7 T1) := HXr
          clear HXr
          have HCS : Hid (comesS p S1 = { T1 with wy := T1.wy ++ acks }) := by show _ = _; rw [HT1.out, HAc.out, Hh.out, HI.out]; rfl
          have HTW : Hid (T1.wy.length ≤ 160 * M) := by rw [HT1.out]; exact HI1.out.wl
          have HAL : Hid (acks.length ≤ 1) := by rw [HAc.out]; exact aks_len _ _ _
          have HLL : Hid (T1.wy.length + acks.length ≤ maxLen ∧ (T1.wy.length + acks.length) * 48 ≤ 140737488355328) := by
            have h1 := HTW.out
            have h2 := HAL.out
            constructor <;> (try unfold maxLen) <;> omega
          have SR := HSR.out wr HKk.out
          have s1 : wr.cell? ⟨b, 1, none⟩ = some (.slice a7 T1.wy.length c7) := blk_at HXR.out.blk 1 rfl
          have hbr : b < wr.heap.size := lt_of_block HXR.out.blk
          go_wp2_with (at_builtin; go_must (refine wpList_append_row _ rfl _ _ 44 44 rfl 86 i2 (.agg #[.int .i64 0, .int .i64 0, .int .i64 0, .bool false, .string ⟨#[]⟩]) 5 48 Tryz.underlying44 hi2 hx0 hx1 hx2 rfl (.slice a7 T1.wy.length c7) T1.wy.length (pkCells T1.wy) rfl HXR.out.wy (.slice a2 acks.length c2) acks.length (pkCells acks) rfl SR HLL.out.1 HLL.out.2 ?_); intro a9 c9 w9 r9 g9 t9; have HFF : Hid (SyPost (famN GG i V wr) wr b hb ch hs { T1 with wy := T1.wy ++ acks } (w9.setCell ⟨b, 1, none⟩ (.slice a9 (T1.wy.length + acks.length) c9))) := HXR.out.more (Kept.refl _ _) r9 g9 t9; have s9 : w9.heap[b]? = some (.cells #[.slice (some ⟨hb, 0, none⟩) T1.n ch, .slice a7 T1.wy.length c7] 56 (0, 0)) := (by rw [g9.block b hbr (fun e => by obtain ⟨_, e2⟩ := HXR.out.wy.tp e.symm HXR.out.blk; cases e2)]; exact HXR.out.blk); have e9 : w9.cell? ⟨b, 1, none⟩ = some (.slice a7 T1.wy.length c7) := blk_at s9 1 rfl; have f9 : w9.frozen? ⟨b, 1, none⟩ = false := blk_free s9 _; clear r9 g9 t9 s9)
          go_end0
          rw [HTe.out, ← HS1.out, HCS.out]
          exact ⟨rfl, SyPost.trans (fun _ _ hg => .inl hg) (KY.out.mono (fun _ _ e => e.elim)) (SyPost.trans (Gs1 := GG) (w1 := V) (fun j g hg => HGS.out j g hg) (HKF.out.mono (fun _ _ e => ⟨10, e⟩)) (SyPost.trans (Gs1 := famN GG i V wr) (w1 := wr) (fun _ _ hg => famN_sub hg) (HKe.out.mono (fun _ _ e => ⟨i, e⟩)) HFF.out))⟩

end Go.Proofs.YtpfgnhockfofhaaGreat
