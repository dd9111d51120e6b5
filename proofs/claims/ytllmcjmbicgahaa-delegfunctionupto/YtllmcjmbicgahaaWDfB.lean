/-
  DelegFunction: ranges are given one behind the other; the whole.
-/
import Derived.Test.YtllmcjmbicgahaaWDfC
import Derived.Test.YtllmcjmbicgahaaWStepA
import Derived.Deep.DeepCutAuto
import Derived.Deep.DeepFit
import Derived.Deep.RegionHeld3
namespace Go.Proofs.Ytllmcjmbicgahaa
open Go.RowKit

theorem validB_fit {ds : List Bd} (h : validB ds = true) : FitB ds := fun x hx => by
  have := (valid_sh.1 h).2 x hx
  unfold bdOk at this
  simp only [Bool.and_eq_true, decide_eq_true_eq] at this
  have h2 : x.f.length ≤ 16 := this.2
  unfold maxLen
  omega
theorem own_setO {B size n g : Nat} {e : TypeId} {w : World} {v : Value} {xs : List Value} (h : w.ownsRow B e size v n xs) (hne : v.ownBlock ≠ some g) (i : Nat) (u : Value) : (w.setCell ⟨g, i, none⟩ u).ownsRow B e size v n xs := by
  refine ⟨h.1, h.2.imp id ?_⟩
  rintro ⟨g', cap, cur, hv, hb, hh, h3⟩
  exact ⟨g', cap, cur, hv, hb, blk_other hh (fun e => hne (by rw [hv]; simp [Value.ownBlock]; exact e)) _, h3⟩
theorem hcatD (f : List UInt8) (hf : f.length ≤ 16) : ∀ X, (Op.stringOp .add (bs f) (ByteArray.mk #[97])).run Try.prog X = .ok (.string (bs (f ++ [97]))) X := fun X => by
  have e1 : (bs f).size = f.length := bs_size f
  have e2 : (ByteArray.mk #[97]).size = 1 := rfl
  unfold Op.stringOp
  simp only [e1, e2]
  rw [if_neg (by have e : IntKind.i64.max = 9223372036854775807 := rfl; omega), show (ByteArray.mk #[97]) = bs [97] from rfl, bs_append]
  rfl
theorem gsAt_zero (raw : List Pr) : gsAt raw 0 = raw := by simp [gsAt]
theorem gsAt_take {raw : List Pr} {i : Nat} (h : i ≤ raw.length) : (gsAt raw i).take i = (raw.take i).map tameG := by
  unfold gsAt
  rw [List.take_left' (by simp; omega)]
theorem want_next {raw : List Pr} {i : Nat} (h : i < raw.length) (key : List UInt8) : wantG ((raw.take (i + 1)).map tameG) key = if inR key (tameG raw[i]).k (tameG raw[i]).v = true then (tameG raw[i]).n else wantG ((raw.take i).map tameG) key := by
  rw [List.take_succ_eq_append_getElem h, List.map_append]
  unfold wantG
  rw [List.foldl_append]
  rfl
set_option maxRecDepth 1000000 in
set_option maxHeartbeats 40000000 in
theorem delegFunction_any (w : World) (B cR cM : Nat) (aR aM : Option Addr) (raw : List Pr) (more : List (List UInt8)) (hR : PairRow B w aR raw) (hM : StrRow B w aM more) (hlr : raw.length ≤ 1048576) (hlm : more.length ≤ 1048576) :
    Calls Try.prog 4 #[.slice aR raw.length cR, .slice aM more.length cM] w fun e w' => e = .returned (.bool true) ∧ Kept Nil w w' := by
  obtain ⟨i0, hi, hz0, hz1, hz2⟩ := info_parts Try.infoGv
  obtain ⟨j0, hj, hy0, hy1, hy2⟩ := info_parts Try.infoTd
  have HSR : Hid (Src Try.prog 3 32 (.slice aR raw.length cR) raw.length (kvCells raw) w) := hR.srcG
  have HLR : Hid (0 + raw.length ≤ maxLen ∧ (0 + raw.length) * 40 ≤ 140737488355328) := by constructor <;> (try unfold maxLen) <;> omega
  have HLM : Hid (0 + more.length ≤ maxLen ∧ (0 + more.length) * 16 ≤ 140737488355328) := by constructor <;> (try unfold maxLen) <;> omega
  have HM : Hid (StrRow B w aM more) := hM
  have HRF : Hid (Fit raw) := hR.fit
  clear hR hM
  go_enter Try.func4, Try.ntmps4
  go_upto_region 2 with (at_builtin; go_must (refine wpList_append_src _ rfl _ _ 32 32 rfl w.heap.size 36 i0 (.agg #[.string ⟨#[]⟩, .string ⟨#[]⟩, .int .i64 0]) 3 40 Try.underlying32 hi hz0 hz1 hz2 rfl (.slice none 0 0) 0 [] rfl (World.ownsRow_nil _ _ _ _) (.slice aR raw.length cR) raw.length (kvCells raw) rfl HSR.out HLR.out.1 HLR.out.2 (Nat.le_refl _) ?_); intro aL cL w1 ho1 hg1; have HG1 : Hid (OwnG w.heap.size w1 aL cL raw) := (by rw [Nat.zero_add, List.nil_append] at ho1; exact ho1); have K1 : Hid (Kept Nil w w1) := (Kept.refl _ _).grown hg1 (fun k hk => by simp [Value.ownBlock] at hk); clear ho1 hg1)
  have HSM : Hid (Src Try.prog 1 33 (.slice aM more.length cM) more.length (tdCells more) w1) := (HM.out.nil K1.out).srcTd
  go_upto_region 3 with (at_builtin; go_must (refine wpList_append_src _ rfl _ _ 33 33 rfl w.heap.size 9 j0 (.string ⟨#[]⟩) 1 16 Try.underlying33 hj hy0 hy1 hy2 rfl (.slice none 0 0) 0 [] rfl (World.ownsRow_nil _ _ _ _) (.slice aM more.length cM) more.length (tdCells more) rfl HSM.out HLM.out.1 HLM.out.2 K1.out.size ?_); intro aK cK w2 ho2 hg2; have HT2 : Hid (OwnTd w.heap.size w2 aK cK more) := (by rw [Nat.zero_add, List.nil_append] at ho2; exact ho2); have K12 : Hid (Kept Nil w1 w2) := (Kept.refl _ _).grown hg2 (fun k hk => by simp [Value.ownBlock] at hk); clear ho2 hg2)
  have HG2 : Hid (OwnG w.heap.size w2 aL cL raw) := HG1.out.kept K12.out
  have NW := new_any 1 w2
  go_wp2_with fail
  go_fit NW
  rintro e w3 ⟨rfl, o3, k3⟩
  have HD3 : Hid (OwnB w.heap.size w3 (some ⟨w2.heap.size, 0, none⟩) 1 [⟨[], 1⟩]) := o3.mono (Nat.le_trans K1.out.size K12.out.size)
  have HG3 : Hid (OwnG w.heap.size w3 aL cL raw) := HG2.out.kept k3
  have HT3 : Hid (OwnTd w.heap.size w3 aK cK more) := HT2.out.kept k3
  have K3 : Hid (Kept Nil w w3) := (K1.out.trans K12.out).trans k3
  clear o3 k3 NW HG2 HT2 HG1
  obtain ⟨gd0, HGd⟩ : ∃ g, Hid (g = w2.heap.size) := ⟨_, rfl⟩
  rw [← HGd.out] at HD3 ⊢
  have AT := at_any w3.heap.size 1 ⟨gd0, 0, none⟩ [⟨[], 1⟩] [] w3 (HD3.out.row (fun x hx => by rw [List.mem_singleton] at hx; subst hx; exact Nat.zero_le _)) (List.pairwise_singleton _ _) (by decide)
  rw [show hoAt [] [(⟨[], 1⟩ : Bd)] = 1 from rfl, show ([(⟨[], 1⟩ : Bd)].length) = 1 from rfl] at AT
  go_wp2_with fail
  go_fit AT
  rintro e w4 ⟨rfl, k4⟩
  have HD4 : Hid (OwnB w.heap.size w4 (some ⟨gd0, 0, none⟩) 1 [⟨[], 1⟩]) := HD3.out.kept k4
  have HG4 : Hid (OwnG w.heap.size w4 aL cL raw) := HG3.out.kept k4
  have HT4 : Hid (OwnTd w.heap.size w4 aK cK more) := HT3.out.kept k4
  have K4 : Hid (Kept Nil w w4) := K3.out.trans k4
  clear k4 AT HD3 HG3 HT3
  go_upto_block 0 with fail
  go_cut [6, 7] (fun s6 s7 wr => ∃ u : Value, ∃ i cK cd gd : Nat, ∃ aK : Option Addr, ∃ ks : List (List UInt8), ∃ ds : List Bd, i = raw.length ∧ u = .int .i64 i ∧ s6 = .slice aK ks.length cK ∧ s7 = .slice (some ⟨gd, 0, none⟩) ds.length cd ∧ Hid (OwnG w.heap.size wr aL cL (gsAt raw i)) ∧ Hid (OwnTd w.heap.size wr aK cK ks) ∧ Hid (OwnB w.heap.size wr (some ⟨gd, 0, none⟩) cd ds) ∧ Hid (Kept Nil w wr) ∧ Hid (validB ds = true) ∧ Hid (∀ key, hoAt key ds = wantG ((raw.take i).map tameG) key) ∧ Hid (ds.length ≤ 1 + 2 * i) ∧ Hid (ks.length ≤ 1048576 + 3 * i))
  case first =>
    go_wp2_with fail
    go_loopw [6, 7, 8] (fun s6 s7 u wr => ∃ i cK cd gd : Nat, ∃ aK : Option Addr, ∃ ks : List (List UInt8), ∃ ds : List Bd, i ≤ raw.length ∧ u = .int .i64 i ∧ s6 = .slice aK ks.length cK ∧ s7 = .slice (some ⟨gd, 0, none⟩) ds.length cd ∧ Hid (OwnG w.heap.size wr aL cL (gsAt raw i)) ∧ Hid (OwnTd w.heap.size wr aK cK ks) ∧ Hid (OwnB w.heap.size wr (some ⟨gd, 0, none⟩) cd ds) ∧ Hid (Kept Nil w wr) ∧ Hid (validB ds = true) ∧ Hid (∀ key, hoAt key ds = wantG ((raw.take i).map tameG) key) ∧ Hid (ds.length ≤ 1 + 2 * i) ∧ Hid (ks.length ≤ 1048576 + 3 * i)) (fun _ _ u _ => raw.length - (intOf u).toNat)
    case atStart => exact ⟨0, cK, 1, gd0, aK, more, [⟨[], 1⟩], Nat.zero_le _, rfl, rfl, rfl, by rw [gsAt_zero]; exact HG4.out, HT4.out, HD4.out, K4.out, rfl, fun key => (by show hoAt key [(⟨[], 1⟩ : Bd)] = 1; rw [hoAt_is]; show (if lessB key [] = true then 0 else 1) = 1; rw [less_nil_right]; rfl), (by show 1 ≤ 1 + 2 * 0; omega), (by show more.length ≤ 1048576 + 3 * 0; omega)⟩
    case round =>
      obtain ⟨i, cK, cd, gd, aK, ks, ds, hin, rfl, rfl, rfl, HG, HT, HD, HK, HV, HW, HLd, HLk⟩ := hrel
      by_cases hlt : i < raw.length
      · have hli : (i : Int) < raw.length := by omega
        have hgl : i < (gsAt raw i).length := by rw [gsAt_len]; exact hlt
        obtain ⟨gL, eL, hbL, hgL, hc⟩ := HG.out.cells (by omega)
        cases eL
        obtain ⟨c0, c1, c2, z0, z1, z2⟩ := hc i hgl
        obtain ⟨y, HY⟩ : ∃ y : Pr, Hid (y = raw[i]) := ⟨raw[i], (rfl : raw[i] = raw[i])⟩
        rw [gsAt_at hlt, ← HY.out] at c0 c1 c2
        have HFy : Hid (y.k.length ≤ 9223372036854775807 ∧ y.v.length ≤ 9223372036854775807) := by rw [HY.out]; exact HRF.out _ (List.getElem_mem hlt)
        clear hc
        obtain ⟨bb, cs, eb, _, HBL, _⟩ := HG.out.block (by simp)
        cases eb
        have HBL : Hid (wr.heap[gL]? = some (.cells cs 36 (0, 0))) := HBL
        obtain ⟨f, HFf⟩ : ∃ f, Hid (f = y.k.take 16) := ⟨_, rfl⟩
        obtain ⟨q, HQf⟩ : ∃ q, Hid (q = y.v.take 16) := ⟨_, rfl⟩
        have hf16 : f.length ≤ 16 := by rw [HFf.out, List.length_take]; omega
        have hq16 : q.length ≤ 16 := by rw [HQf.out, List.length_take]; omega
        obtain ⟨W1, hW1⟩ : ∃ W, W = wr.setCell ⟨gL, i * 3, none⟩ (.string (bs f)) := ⟨_, rfl⟩
        obtain ⟨W2, hW2⟩ : ∃ W, W = W1.setCell ⟨gL, i * 3 + 1, none⟩ (.string (bs q)) := ⟨_, rfl⟩
        obtain ⟨hn, HNn⟩ : ∃ z, Hid (z = y.n % 9) := ⟨_, rfl⟩
        have hn0 : 0 ≤ hn := by rw [HNn.out]; exact Int.emod_nonneg _ (by decide)
        have hn9 : hn < 9 := by rw [HNn.out]; exact Int.emod_lt_of_pos _ (by decide)
        obtain ⟨W3, hW3⟩ : ∃ W, W = W2.setCell ⟨gL, i * 3 + 2, none⟩ (.int .i64 (1 + hn)) := ⟨_, rfl⟩
        have HB1 : Hid (W1.heap[gL]? = some (.cells (cs.setIfInBounds (i * 3) (.string (bs f))) 36 (0, 0))) := by rw [hW1]; exact blk_set HBL.out _ _
        have HB2 : Hid (W2.heap[gL]? = some (.cells ((cs.setIfInBounds (i * 3) (.string (bs f))).setIfInBounds (i * 3 + 1) (.string (bs q))) 36 (0, 0))) := by rw [hW2]; exact blk_set HB1.out _ _
        have d1 : W1.cell? ⟨gL, i * 3 + 1, none⟩ = some (.string (bs y.v)) := by
          rw [blk_cell HB1.out, Array.getElem?_setIfInBounds, if_neg (by omega), ← blk_cell HBL.out]; exact c1
        have d2 : W2.cell? ⟨gL, i * 3 + 2, none⟩ = some (.int .i64 y.n) := by
          rw [blk_cell HB2.out, Array.getElem?_setIfInBounds, if_neg (by omega), Array.getElem?_setIfInBounds, if_neg (by omega), ← blk_cell HBL.out]; exact c2
        have y1 : W1.frozen? ⟨gL, i * 3 + 1, none⟩ = false := blk_free HB1.out _
        have y2 : W2.frozen? ⟨gL, i * 3 + 2, none⟩ = false := blk_free HB2.out _
        have HTE : Hid (tameG raw[i] = ⟨f, q, 1 + hn⟩) := by show _ = _; rw [← HY.out, HFf.out, HQf.out, HNn.out]; rfl
        have HG3 : Hid (OwnG w.heap.size W3 (some ⟨gL, 0, none⟩) cL (gsAt raw (i + 1))) := by
          have := HG.out.set3 hgl ⟨f, q, 1 + hn⟩
          rw [← HTE.out, gsAt_next hlt, HTE.out] at this
          rw [hW3, hW2, hW1]
          exact this
        have hneT : (Value.slice aK ks.length cK).ownBlock ≠ some gL := own_tyD HG.out HT.out (by decide) gL rfl
        have hneD : (Value.slice (some ⟨gd, 0, none⟩) ds.length cd).ownBlock ≠ some gL := own_tyD HG.out HD.out (by decide) gL rfl
        have HT3 : Hid (OwnTd w.heap.size W3 aK cK ks) := by rw [hW3, hW2, hW1]; exact own_setO (own_setO (own_setO HT.out hneT _ _) hneT _ _) hneT _ _
        have HD3 : Hid (OwnB w.heap.size W3 (some ⟨gd, 0, none⟩) cd ds) := by rw [hW3, hW2, hW1]; exact own_setO (own_setO (own_setO HD.out hneD _ _) hneD _ _) hneD _ _
        have K3 : Hid (Kept Nil w W3) := by rw [hW3, hW2, hW1]; exact ((HK.out.setNew (p := ⟨gL, i * 3, none⟩) hbL _).setNew (p := ⟨gL, i * 3 + 1, none⟩) hbL _).setNew (p := ⟨gL, i * 3 + 2, none⟩) hbL _
        have KO1 := keyOf_any y.k wr (by have := HFy.out.1; omega)
        have KO2 := keyOf_any y.v W1 (by have := HFy.out.2; omega)
        have PK := pickD_any y.n 9 W2 (by decide) (by decide)
        rw [← HFf.out] at KO1
        rw [← HQf.out] at KO2
        rw [← HNn.out] at PK
        clear c1 c2 z1 z2 hneT hneD
        go_wp2_with fail
        go_fit KO1
        rintro e _ ⟨rfl, hw9⟩
        rw [hw9]
        clear hw9 KO1
        go_upto_region 10 with fail
        rw [← hW1]
        clear hW1 c0 z0
        go_wp2_with fail
        go_fit KO2
        rintro e _ ⟨rfl, hw9⟩
        rw [hw9]
        clear hw9 KO2
        go_upto_region 11 with fail
        rw [← hW2]
        clear hW2 d1 y1
        go_wp2_with fail
        go_fit PK
        rintro e _ ⟨rfl, hw9⟩
        rw [hw9]
        clear hw9 PK
        go_upto_region 12 with fail
        rw [← hW3]
        clear hW3 d2 y2
        have hgl3 : i < (gsAt raw (i + 1)).length := by rw [gsAt_len]; exact hlt
        have HEi : Hid ((gsAt raw (i + 1))[i] = ⟨f, q, 1 + hn⟩) := by
          have e1 : (gsAt raw (i + 1)) = (gsAt raw i).set i (tameG raw[i]) := (gsAt_next hlt).symm
          have e2 : (gsAt raw (i + 1))[i]? = some (tameG raw[i]) := by rw [e1, List.getElem?_set_self hgl]
          rw [List.getElem?_eq_getElem hgl3, HTE.out] at e2
          exact Option.some.inj e2
        have CC : ∀ X, Kept Nil W3 X → X.cell? ⟨gL, i * 3, none⟩ = some (.string (bs f)) ∧ X.cell? ⟨gL, i * 3 + 1, none⟩ = some (.string (bs q)) ∧ X.cell? ⟨gL, i * 3 + 2, none⟩ = some (.int .i64 (1 + hn)) := fun X kX => by
          obtain ⟨g', e', a1, a2, a3⟩ := (HG3.out.kept kX).cell3 hgl3
          cases e'
          rw [HEi.out] at a1 a2 a3
          exact ⟨a1, a2, a3⟩
        obtain ⟨e0, e1, e2⟩ := CC W3 (Kept.refl _ _)
        have hS3 := (⟨e0, e1, e2⟩ : W3.cell? ⟨gL, i * 3, none⟩ = some (.string (bs f)) ∧ W3.cell? ⟨gL, i * 3 + 1, none⟩ = some (.string (bs q)) ∧ W3.cell? ⟨gL, i * 3 + 2, none⟩ = some (.int .i64 (1 + hn)))
        have KD3 : Hid (Kept Nil W3 W3.drew) := (Kept.refl _ _).drew
        have hldn := HLd.out
        have HST := set_any W3.heap.size cd ⟨gd, 0, none⟩ ds f q (1 + hn) W3.drew ((HD3.out.row (validB_fit HV.out)).nil KD3.out) (valid_sh.1 HV.out).1.srt (valid_sh.1 HV.out).1.pos (by obtain ⟨_, _, _, _, _, h9, _⟩ := HD3.out.block (by simp); exact h9) (by obtain ⟨_, _, _, _, _, _, h9, _⟩ := HD3.out.block (by simp); exact h9) (by omega) (by unfold maxLen; omega) (by unfold maxLen; omega)
        obtain ⟨ds2, HDS⟩ : ∃ d, Hid (d = setB ds f q (1 + hn)) := ⟨_, rfl⟩
        rw [← HDS.out] at HST
        have HV2 : Hid (validB ds2 = true) := by show _ = _; rw [HDS.out]; exact set_valid HV.out hf16 hq16 (by unfold isNd; rw [decide_eq_true (by omega), decide_eq_true (by omega)]; rfl)
        have HL2 : Hid (ds2.length ≤ 1 + 2 * (i + 1)) := by have := setB_len ds f q (1 + hn); rw [← HDS.out] at this; show _ ≤ _; omega
        have HW2 : Hid (∀ key, hoAt key ds2 = wantG ((raw.take (i + 1)).map tameG) key) := fun key => by
          rw [want_next hlt, HTE.out, HDS.out, hoAt_is, (valid_sh.1 HV.out).1.ho, ← hoAt_is, HW.out]
        go_region_held3 (fun w' => w'.cell? ⟨gL, i * 3, none⟩ = some (.string (bs f)) ∧ w'.cell? ⟨gL, i * 3 + 1, none⟩ = some (.string (bs q)) ∧ w'.cell? ⟨gL, i * 3 + 2, none⟩ = some (.int .i64 (1 + hn))) (first | assumption | go_keep) (first | (go_at_call 7; go_fit HST; rintro e w6 ⟨gd6, cd6, rfl, o6, k6⟩; have K6 : Hid (Kept Nil W3 w6) := KD3.out.trans k6; have HD6 : Hid (OwnB w.heap.size w6 (some ⟨gd6, 0, none⟩) cd6 ds2) := o6.mono K3.out.size; have s6 := CC w6 K6.out; clear o6 k6))
        clear HST
        have hl2n := HL2.out
        have VA := valid_any w6.heap.size cd6 (some ⟨gd6, 0, none⟩) ds2 w6 (HD6.out.row (validB_fit HV2.out)) (by omega)
        rw [HV2.out] at VA
        go_wp2_with fail
        go_fit VA
        rintro e w7 ⟨rfl, k7⟩
        have K7 : Hid (Kept Nil W3 w7) := K6.out.trans k7
        have HD7 : Hid (OwnB w.heap.size w7 (some ⟨gd6, 0, none⟩) cd6 ds2) := HD6.out.kept k7
        clear k7 VA
        have HT7 : Hid (w7.ownsRow w.heap.size 9 1 (.slice aK ks.length cK) ks.length (tdCells ks)) := HT3.out.kept K7.out
        have HG7 : Hid (OwnG w.heap.size w7 (some ⟨gL, 0, none⟩) cL (gsAt raw (i + 1))) := HG3.out.kept K7.out
        have K07 : Hid (Kept Nil w w7) := K3.out.trans K7.out
        have s7 := CC w7 K7.out
        have hlkn := HLk.out
        have HLL : Hid (ks.length + 3 ≤ maxLen ∧ (ks.length + 3) * 16 ≤ 140737488355328) := by constructor <;> (try unfold maxLen) <;> omega
        have hcat := hcatD f hf16
        have hzf : (bs f).size = f.length := bs_size f
        have hzl : (f.length : Int) ≤ 16 := by omega
        have hz1' : ¬ (9223372036854775807 : Int) < (f.length : Int) + 1 := by omega
        have hz2' : ((bs f).size : Int) + 1 ≤ 9223372036854775807 := by rw [hzf]; omega
        have HSV : Hid (Src Try.prog 1 33 (.slice (some ⟨w7.heap.size, 0, none⟩) 3 3) 3 [.string (bs f), .string (bs q), .string (bs (f ++ [97]))] (w7.drew.alloc (.cells #[.string (bs f), .string (bs q), .string (bs (f ++ [97]))] 9))) := by
          refine Src.ofSlice _ Try.underlying33 ⟨w7.heap.size, 0, none⟩ 3 3 _ rfl ?_ (fun u hu => by simp at hu; rcases hu with rfl | rfl | rfl <;> rfl)
          intro j u hj
          rw [addr_addE]
          have hb : (w7.drew.alloc (.cells #[.string (bs f), .string (bs q), .string (bs (f ++ [97]))] 9)).heap[w7.heap.size]? = some (.cells #[.string (bs f), .string (bs q), .string (bs (f ++ [97]))] 9 (0, 0)) := blk_new w7.drew _
          rw [blk_cell hb, ← hj]
          simp
        have HTV : Hid ((w7.drew.alloc (.cells #[.string (bs f), .string (bs q), .string (bs (f ++ [97]))] 9)).ownsRow w.heap.size 9 1 (.slice aK ks.length cK) ks.length (tdCells ks)) := own_kept (X := Nil) HT7.out ((Kept.refl _ _).drew.alloc _) (fun _ _ _ x => x.elim)
        have KV : Hid (Kept Nil w7 (w7.drew.alloc (.cells #[.string (bs f), .string (bs q), .string (bs (f ++ [97]))] 9))) := (Kept.refl _ _).drew.alloc _
        have KVw : Hid (Kept Nil w (w7.drew.alloc (.cells #[.string (bs f), .string (bs q), .string (bs (f ++ [97]))] 9))) := K07.out.trans KV.out
        clear e0 e1 e2 hS3
        go_upto_region 16 with fail
        go_region_held3 (fun w' => w'.cell? ⟨gL, i * 3, none⟩ = some (.string (bs f)) ∧ w'.cell? ⟨gL, i * 3 + 1, none⟩ = some (.string (bs q)) ∧ w'.cell? ⟨gL, i * 3 + 2, none⟩ = some (.int .i64 (1 + hn))) (first | assumption | go_keep) (first | (refine step_append_src (w7.drew.alloc (.cells #[.string (bs f), .string (bs q), .string (bs (f ++ [97]))] 9)) (by rfl) (.tmp 88) (.tmp 105) 33 33 (by rfl) w.heap.size 9 j0 (.string ⟨#[]⟩) 1 16 Try.underlying33 hj hy0 hy1 hy2 rfl (.slice aK ks.length cK) ks.length (tdCells ks) (by simp [Act.eval]) HTV.out (.slice (some ⟨w7.heap.size, 0, none⟩) 3 3) 3 [.string (bs f), .string (bs q), .string (bs (f ++ [97]))] (by simp [Act.eval]) HSV.out HLL.out.1 HLL.out.2 KVw.out.size ?_; intro ao8 c8 w8 ho8 hg8; have HT8 : Hid (w8.ownsRow w.heap.size 9 1 (.slice ao8 (ks.length + 3) c8) (ks.length + 3) (tdCells ks ++ [.string (bs f), .string (bs q), .string (bs (f ++ [97]))])) := ho8; have HG8 : Hid (OwnG w.heap.size w8 (some ⟨gL, 0, none⟩) cL (gsAt raw (i + 1))) := own_farD (HG7.out.kept KV.out) hg8 (fun g hg e => own_tyD HTV.out (HG7.out.kept KV.out) (by decide) g e hg); have HD8 : Hid (OwnB w.heap.size w8 (some ⟨gd6, 0, none⟩) cd6 ds2) := own_farD (HD7.out.kept KV.out) hg8 (fun g hg e => own_tyD HTV.out (HD7.out.kept KV.out) (by decide) g e hg); have K8 : Hid (Kept Nil w w8) := KVw.out.grown hg8 (fun k hk => own_row HTV.out k hk); have s8 : w8.cell? ⟨gL, i * 3, none⟩ = some (.string (bs f)) ∧ w8.cell? ⟨gL, i * 3 + 1, none⟩ = some (.string (bs q)) ∧ w8.cell? ⟨gL, i * 3 + 2, none⟩ = some (.int .i64 (1 + hn)) := (by obtain ⟨g', e', a1, a2, a3⟩ := HG8.out.cell3 hgl3; cases e'; rw [HEi.out] at a1 a2 a3; exact ⟨a1, a2, a3⟩); clear ho8 hg8))
        have HT9 : Hid (OwnTd w.heap.size w8 ao8 c8 (ks ++ [f, q, f ++ [97]])) := by
          have h := HT8.out
          show World.ownsRow _ _ _ _ _ _ _
          rw [show tdCells (ks ++ [f, q, f ++ [97]]) = tdCells ks ++ [.string (bs f), .string (bs q), .string (bs (f ++ [97]))] by simp [tdCells], List.length_append]
          exact h
        go_wp2
        go_roundw
        case rel => exact ⟨i + 1, c8, cd6, gd6, ao8, ks ++ [f, q, f ++ [97]], ds2, by omega, by go_num, by rw [List.length_append]; rfl, rfl, HG8.out, HT9.out, HD8.out, K8.out, HV2.out, HW2.out, HL2.out, (by show (ks ++ [f, q, f ++ [97]]).length ≤ 1048576 + 3 * (i + 1); rw [List.length_append]; show ks.length + 3 ≤ _; omega)⟩
        case measure => simp [intOf]; omega
      · obtain rfl : i = raw.length := by omega
        have hirr : ¬ (raw.length : Int) < raw.length := by omega
        go_wp2
        go_meet
        exact ⟨_, raw.length, cK, cd, gd, aK, ks, ds, rfl, rfl, rfl, rfl, HG.out, HT.out, HD.out, HK.out, HV.out, HW.out, HLd.out, HLk.out⟩
  case rest =>
    rename World => wc
    obtain ⟨_, i, cK, cd, gd, aK, ks, ds, rfl, _, rfl, rfl, HG, HT5, HD5, HK5, HV, HW, HLd, HLk⟩ := hcut
    have HG5 : Hid (OwnG w.heap.size wc aL cL (raw.map tameG)) := by have := HG.out; rw [gsAt_all] at this; exact this
    have HS5 : Hid (Sh ds) := (valid_sh.1 HV.out).1
    have HF5 : Hid (FitB ds) := validB_fit HV.out
    have HW5 : Hid (∀ key, hoAt key ds = wantG (raw.map tameG) key) := by have := HW.out; rw [List.take_length] at this; exact this
    have hb1 := HLd.out
    have hb2 := HLk.out
    have hb3 : (raw.map tameG).length = raw.length := List.length_map _
    apply_assumption
    rw [← hb3]
    exact dfT17 w wc w.heap.size gd cd cL cK aL aK (raw.map tameG) ks ds HG5 HT5 HD5 HK5 HK5.out.size HS5 HF5 HW5 (by omega) (by omega) (by omega) _ _ _ _ _ _ _ _ _ _ _ _ _ _ _ _ _ _ _ _ _ _ _ _ _ _ _ _ _ _ _ _ _ _ _ _ _ _ _ _ _ _ _ _ _ _ _ _ _ _ _ _ _ _ _ _ _ _ _ _ _ _ _ _ _ _ _ _ _ _ _ _ _ _ _ _ _ _ _ _ _ _ _ _ _ _ _ _ _ _ _ _ _ _ _ _ _ _ _ _ _ _ _ _ _ _ _ _ _ _ _ _ _ _ _ _ _ _ _ _ _ _ _ _ _ _ _ _ _ _ _ _ _ _ _ _ _ _ _ _ _ _ _ _ _ _ _ _ _ _ _ _ _ _ _ _ _ _ _ _ _ _ _ _ _ _ _ _ _ _ _ _ _ _ _ _ _ _ _ _ _ _ _ _ _ _ _ _ _ _ _ _ _ _ _ _ _ _ _ _ _ _ _ _ _ _ _ _ _ _ _ _ _ _ _ _ _ _ _ _ _ _ _ _

end Go.Proofs.Ytllmcjmbicgahaa
