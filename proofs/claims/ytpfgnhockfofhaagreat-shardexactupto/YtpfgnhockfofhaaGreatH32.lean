/-
  Joined: WSs3.
-/
import Derived.Test.YtpfgnhockfofhaaGreatH24
import Derived.Test.YtpfgnhockfofhaaGreatH22
import Derived.StillTailTactics
/-
  The document's shards: a host takes what came.
-/
namespace Go.Proofs.YtpfgnhockfofhaaGreat
open Go.RowKit

set_option maxRecDepth 100000 in
set_option maxHeartbeats 8000000 in
theorem takeY_any (K : List (List UInt8)) (M : Nat) (G : Nat → Prop) (b : Nat) (id : Int) (h : Hd) (body : List UInt8) (w : World) (x : HyM G w b id h) (ok : OkH K M h) (hb : GoodB K body) (hKM : K.length ≤ M) (hM : M ≤ 1900000) :
    Calls Tryz.prog 44 #[.pointer (some ⟨b, 0, none⟩), .string (bs body)] w fun e w' => e = .returned (.tuple #[]) ∧ HyM (GN G w) w' b id (takeHd id body h) ∧ Kept (TG G) w w' := by
  obtain ⟨fr, up, l, rfl, hf, hu, hsm, hs, hl⟩ := hb
  obtain ⟨rb, ay, cy, ai, ci, gk, ck, x⟩ := x
  obtain ⟨j0, hj, hy0, hy1, hy2⟩ := info_parts Tryz.infoTd
  have hTK : takeHd id (packB fr up l) h = ⟨h.os, setIs l h.it, setB h.kb fr up id⟩ := by unfold takeHd; rw [unp_pack hf hu (fun y hy => (hl y hy).1)]
  have hll : l.length ≤ M := Nat.le_trans (srt_len hs (fun y hy => (hl y hy).1)) hKM
  have hil : h.it.length ≤ M := Nat.le_trans ok.len hKM
  have hsml := frB_small hf hu (fun x hx => (hl x hx).1)
  have hfl := frames_le hsml
  rw [frB_len] at hfl
  obtain ⟨v1, v2, v3⟩ := vb_facts ok.kv
  have hkl := ok.kl
  have HSh : Hid (Sh h.kb) := (valid_sh.1 ok.kv).1
  have HX : Hid (HyX (fun g => G g ∧ g < w.heap.size) w b rb id ay cy ai ci gk ck h) := x.lt
  have HOK : Hid (OkH K M h) := ok
  have HLL : Hid (l.length ≤ M ∧ h.it.length ≤ M) := ⟨hll, hil⟩
  have HFB : Hid (FitB h.kb) := v3
  obtain ⟨G0, HG0⟩ : ∃ G0 : Nat → Prop, Hid (G0 = fun g => G g ∧ g < w.heap.size) := ⟨_, rfl⟩
  rw [← HG0.out] at HX
  have HGG : Hid (∀ g, G0 g → G g ∧ g < w.heap.size) := fun g hg => by rw [HG0.out] at hg; exact hg
  obtain ⟨ks, HKS⟩ : ∃ ks, Hid (ks = setB h.kb fr up id) := ⟨_, rfl⟩
  obtain ⟨rk, HRK⟩ : ∃ rk : Hd, Hid (rk = { h with kb := ks }) := ⟨_, rfl⟩
  have HRE : Hid (⟨h.os, setIs l h.it, ks⟩ = ({ rk with it := setIs l rk.it } : Hd)) := by show _ = _; rw [HRK.out]
  rw [hTK, ← HKS.out, HRE.out]
  obtain ⟨bl, HBl⟩ : ∃ bl, Hid (bl = frB fr up l) := ⟨_, rfl⟩
  have HBn : Hid (bl.length = 2 + 2 * l.length) := by show _ = _; rw [HBl.out, frB_len]
  have HBs : Hid (∀ s ∈ bl, s.length ≤ 64) := by rw [HBl.out]; exact hsml
  have HFL : Hid ((frames bl).length ≤ 1000000000) := by rw [HBl.out]; show _ ≤ _; omega
  unfold packB
  rw [← HBl.out]
  clear hTK hs hl ok x HG0 hsml hfl hsm
  go_enter Tryz.func44, Tryz.ntmps44
  go_wp2
  go_loopw [1, 4, 7] (fun s u z wr => ∃ k c : Nat, ∃ a : Option Addr, ∃ m : Nat, k ≤ bl.length ∧ Hid (m = k) ∧ s = .string (bs (frames (bl.drop k))) ∧ u = .slice a m c ∧ Hid (OwnTd w.heap.size wr a c (bl.take k)) ∧ Hid (Kept Nil w wr)) (fun _ u _ _ => bl.length - (match u with | .slice _ n _ => n | _ => 0))
  case atStart => exact ⟨0, 0, none, 0, Nat.zero_le _, rfl, by rw [List.drop_zero], rfl, World.ownsRow_nil _ _ _ _, Kept.refl _ _⟩
  case round =>
    obtain ⟨k, c, a, m, hk, Hmk, rfl, rfl, HO, HK⟩ := hrel
    by_cases hlt : k < bl.length
    · have HD : Hid (bl.drop k = bl[k] :: bl.drop (k + 1)) := List.drop_eq_getElem_cons hlt
      obtain ⟨y, HY⟩ : ∃ y, Hid (y = bl[k]) := ⟨bl[k], (rfl : bl[k] = bl[k])⟩
      have hyl : y.length ≤ 64 := by rw [HY.out]; exact HBs.out _ (List.getElem_mem _)
      obtain ⟨L, HLe⟩ : ∃ l, Hid (l = frames (bl.drop k)) := ⟨_, rfl⟩
      have HLe2 : Hid (L = encFrame y ++ frames (bl.drop (k + 1))) := by rw [HLe.out, HD.out, frames_cons, ← HY.out]; rfl
      have hne : L.isEmpty = false := by
        cases hL : L with
        | nil => have := HLe.out; rw [HD.out, hL] at this; exact absurd this.symm (frames_ne _ _)
        | cons x t => rfl
      have tL := bs_toList L
      have UN := refUnframe_any L wr (by have h1 := frames_drop bl k; have h2 := HFL.out; rw [← HLe.out] at h1; unfold maxLen; omega)
      rw [HLe2.out, unF_whole (by omega), ← HLe2.out] at UN
      obtain ⟨R, HRe⟩ : ∃ l, Hid (l = frames (bl.drop (k + 1))) := ⟨_, rfl⟩
      dsimp only at UN
      rw [← HRe.out] at UN
      rw [← HLe.out]
      go_wp2_with fail
      go_fit UN
      rintro e w2 ⟨rfl, k2⟩
      have HK2 : Hid (Kept Nil w w2) := HK.out.trans k2
      have HO2 : Hid (w2.ownsRow w.heap.size 9 1 (.slice a m c) m (tdCells (bl.take k))) := by have h9 := HO.out.kept k2; unfold OwnTd at h9; rw [show (bl.take k).length = m by rw [List.length_take, Hmk.out]; omega] at h9; exact h9
      have SR := oneT_src w2 y
      have HLM : Hid (m + 1 ≤ maxLen ∧ (m + 1) * 16 ≤ 140737488355328) := by have := Hmk.out; have := HBn.out; constructor <;> (try unfold maxLen) <;> omega
      have hBs : w.heap.size ≤ w2.heap.size := HK2.out.size
      clear UN k2
      go_wp2_with (at_builtin; go_must (refine wpList_append_src _ rfl _ _ 27 27 rfl w.heap.size 9 j0 (.string ⟨#[]⟩) 1 16 Tryz.underlying27 hj hy0 hy1 hy2 rfl (.slice a m c) m (tdCells (bl.take k)) rfl (World.ownsRow.alloc HO2.out _) (.slice (some ⟨w2.heap.size, 0, none⟩) 1 1) 1 [.string (bs y)] rfl SR HLM.out.1 HLM.out.2 (le_alloc hBs _) ?_); intro a6 c6 w6 ho6 hg6; have HO6 : Hid (OwnTd w.heap.size w6 a6 c6 (bl.take (k + 1))) := (by rw [List.take_succ_eq_append_getElem hlt, ← HY.out]; exact OwnTd.app (gs := [y]) (by rw [List.length_take, Hmk.out]; omega) rfl ho6); have K6 : Hid (Kept Nil w w6) := (HK2.out.alloc _).grown hg6 (fun q hq => own_row HO2.out q hq); clear ho6 hg6)
      go_roundw
      case rel => exact ⟨k + 1, c6, a6, m + 1, by omega, (by show m + 1 = k + 1; rw [Hmk.out]), by rw [HRe.out], rfl, HO6.out, K6.out⟩
      case measure => have := Hmk.out; dsimp only; omega
    · obtain rfl : k = bl.length := by omega
      rw [List.drop_length, show frames ([] : List (List UInt8)) = [] from rfl]
      have hmn : m = 2 + 2 * l.length := by rw [Hmk.out, HBn.out]
      obtain ⟨n, HN⟩ : ∃ n, Hid (n = 2 + 2 * l.length) := ⟨_, rfl⟩
      obtain rfl : m = n := by rw [HN.out]; exact hmn
      rename World => w1
      have HO1 : Hid (OwnTd w.heap.size w1 a c bl) := by have := HO.out; rwa [List.take_length] at this
      have HK1 : Hid (Kept Nil w w1) := HK.out
      have HX1 : Hid (HyX G0 w1 b rb id ay cy ai ci gk ck h) := HX.out.kept HK.out
      have t0 : (bs ([] : List UInt8)).toList = [] := bs_toList []
      have hn2 : ¬ (m : Int) < 2 := by omega
      have hnm : ¬ (m : Int) % 2 = 1 := by omega
      obtain ⟨g, rfl⟩ : ∃ g, a = some ⟨g, 0, none⟩ := by
        obtain ⟨g, e, _⟩ := HO1.out.cell (j := 0) (by rw [HBn.out]; omega)
        exact ⟨g, e⟩
      have HG1 : Hid (w.heap.size ≤ g ∧ g < w1.heap.size) := World.ownsRow.lt HO1.out g rfl
      have HC0 : Hid (w1.cell? ⟨g, 0, none⟩ = some (.string (bs fr))) := HO1.out.cellO (by rw [HBl.out]; rfl)
      have HC1 : Hid (w1.cell? ⟨g, 1, none⟩ = some (.string (bs up))) := HO1.out.cellO (by rw [HBl.out]; rfl)
      have HCk : Hid (∀ j, (hj : j < l.length) → w1.cell? ⟨g, 2 + 2 * j, none⟩ = some (.string (bs l[j].k)) ∧ w1.cell? ⟨g, 2 + 2 * j + 1, none⟩ = some (.string (bs l[j].v))) := fun j hj => by
        obtain ⟨h1, h2⟩ := frP_at l j hj
        refine ⟨HO1.out.cellO ?_, HO1.out.cellO ?_⟩
        · rw [HBl.out, show 2 + 2 * j = 2 * j + 1 + 1 by omega]; unfold frB; simpa using h1
        · rw [HBl.out, show 2 + 2 * j + 1 = 2 * j + 1 + 1 + 1 by omega]; unfold frB; simpa using h2
      have KD : Hid (Kept Nil w1 w1.drew) := (Kept.refl _ _).drew
      have DE := delegate_any w1.drew.heap.size ck ⟨gk, 0, none⟩ h.kb fr up id w1.drew ((HX1.out.kept KD.out).bounds HFB.out) (by omega)
      rw [deleg_is HSh.out, ← HKS.out] at DE
      have HKP : Hid (0 < ks.length) := by rw [HKS.out]; exact (HSh.out.set fr up id).pos
      obtain ⟨nk, HNK⟩ : ∃ nk, Hid (nk = h.kb.length) := ⟨_, rfl⟩
      rw [← HNK.out] at DE
      have HHO : Hid (w1.heap[b]? = some (.cells #[.pointer (some ⟨rb, 0, none⟩), .slice ai h.it.length ci, .slice (some ⟨gk, 0, none⟩) nk ck] 66 (0, 0))) := by rw [HNK.out]; exact HX1.out.ho
      have c0 : w1.cell? ⟨b, 0, none⟩ = some (.pointer (some ⟨rb, 0, none⟩)) := blk_at HHO.out 0 rfl
      have c2 : w1.cell? ⟨b, 2, none⟩ = some (.slice (some ⟨gk, 0, none⟩) nk ck) := blk_at HHO.out 2 rfl
      have ci' : w1.cell? ⟨rb, 0, none⟩ = some (.int .i64 id) := by obtain ⟨cells, hc⟩ := HX1.out.rl.cl; rw [blk_cell hc.blk]; exact hc.c0
      have d0 := HC0.out
      have d1 := HC1.out
      have hbl : b < w1.heap.size := lt_of_block HHO.out
      have hgl : g < w1.heap.size := HG1.out.2
      have hrl : rb < w1.heap.size := World.block_lt_of_cell? w1 _ ci'
      have h0n : 0 < m := by omega
      have h0i : (0 : Int) < (m : Int) := by omega
      have h1i : (1 : Int) < (m : Int) := by omega
      have h1n : 1 < m := by omega
      clear hmn hkl v1 v2 v3 HO HK Hmk
      go_upto_region 7 with fail
      go_cut [] (fun w5 => ∃ g' c', Hid (HyX (GN G0 w1) w5 b rb id ay cy ai ci g' c' rk) ∧ Hid (Kept (TG G0) w1 w5))
      case first =>
        go_region_with (go_at_call 51; go_must (go_fit DE); rintro e w2 ⟨a2, d2, rfl, o2, k2⟩; have K2 : Hid (Kept Nil w1 w2) := (KD.out.trans k2); obtain ⟨g2, ea2⟩ : ∃ g2, a2 = some ⟨g2, 0, none⟩ := (by obtain ⟨g2, e2, _⟩ := o2.cells HKP.out; exact ⟨g2, e2⟩); subst ea2; have HH2 := HX1.out.keys K2.out (o2.mono (Nat.le_refl _)); have e3 : w2.cell? ⟨b, 2, none⟩ = some (.slice (some ⟨gk, 0, none⟩) nk ck) := cell_kept K2.out (fun _ x => x) c2; have f3 : w2.frozen? ⟨b, 2, none⟩ = false := blk_free (K2.out.block _ _ HHO.out (fun x => x)) _)
        all_goals
          go_wp2
          go_meet
          exact ⟨g2, d2, by rw [HRK.out]; exact HH2.1, HH2.2⟩
      case rest =>
        rename World => w5
        obtain ⟨g5, c5, HXk, HK5⟩ := hcut
        have HRS : Hid (Srt rk.it ∧ rk.it.length ≤ M) := by rw [HRK.out]; exact ⟨HOK.out.srt, HLL.out.2⟩
        have HGno : Hid (¬ GN G0 w1 g) := fun e => by
          rcases e with e | e
          · have := (HGG.out g e).2; have := HG1.out.1; omega
          · have := HG1.out.2; omega
        clear DE c0 c2 ci' d0 d1
        apply_assumption
        go_wp2
        go_loopw [8] (fun u wr => ∃ k i : Nat, ∃ ai ci, k ≤ l.length ∧ Hid (i = 2 + 2 * k) ∧ u = .int .i64 i ∧ Hid (HyX (GN G0 w1) wr b rb id ay cy ai ci g5 c5 { rk with it := setIs (l.take k) rk.it }) ∧ Hid (Kept (TG (GN G0 w1)) w1 wr)) (fun u _ => m - (intOf u).toNat)
        case atStart => exact ⟨0, 2, ai, ci, Nat.zero_le _, rfl, rfl, HXk.out, HK5.out.upG (fun g hg => .inl hg)⟩
        case round =>
          obtain ⟨k, i, ai, ci, hk, Hik, rfl, HXr, HKr⟩ := hrel
          have HOr : Hid (OwnTd w.heap.size wr (some ⟨g, 0, none⟩) c bl) := own_keptG HO1.out HKr.out (fun g' cs hg e => by
            have e2 : g = g' := by simpa [Value.ownBlock] using hg
            rw [← e2] at e
            exact HGno.out e)
          by_cases hlt : k < l.length
          · have hin : i < m := by have := HN.out; have := Hik.out; omega
            have hii : (i : Int) < (m : Int) := by omega
            have hi1 : i + 1 < m := by have := HN.out; have := Hik.out; omega
            have hii1 : (i : Int) + 1 < (m : Int) := by omega
            have hge0 : 0 ≤ (i : Int) + 1 := by omega
            have hmx : (i : Int) + 2 ≤ 9000000000 := by have := HLL.out.1; have := HN.out; omega
            have hwr1 : IntKind.i64.wrap ((i : Int) + 1) = (i : Int) + 1 := by rw [IntKind.wrap_i64]; omega
            have hti : ((i : Int) + 1).toNat = i + 1 := by omega
            obtain ⟨y, HY⟩ : ∃ y : Pr, Hid (y = l[k]) := ⟨l[k], (rfl : l[k] = l[k])⟩
            have hblk := HOr.out.block (by simp)
            obtain ⟨e0, e1⟩ := HCk.out k hlt
            rw [← HY.out, ← Hik.out] at e0 e1
            have hcell : ∀ j v, w1.cell? ⟨g, j, none⟩ = some v → wr.cell? ⟨g, j, none⟩ = some v := fun j v hv => by
              obtain ⟨_, cs1, e, _, hh, _⟩ := HO1.out.block (by simp)
              cases e
              have h2 := HKr.out.block _ _ hh (fun e => HGno.out e)
              rw [blk_cell hh] at hv
              rw [blk_cell h2]
              exact hv
            have d2 : wr.cell? ⟨g, i, none⟩ = some (.string (bs y.k)) := hcell _ _ e0
            have d3 : wr.cell? ⟨g, i + 1, none⟩ = some (.string (bs y.v)) := hcell _ _ e1
            obtain ⟨qs, HQS⟩ : ∃ qs, Hid (qs = setIs (l.take k) rk.it) := ⟨_, rfl⟩
            have HXq : Hid (HyX (GN G0 w1) wr b rb id ay cy ai ci g5 c5 { rk with it := qs }) := by rw [HQS.out]; exact HXr.out
            have HQN : Hid (setIs (l.take (k + 1)) rk.it = setI y qs) := by show _ = _; rw [setIs_next hlt, HQS.out, HY.out]
            have HQL : Hid (qs.length ≤ 3800000 ∧ Srt qs) := by
              rw [HQS.out]
              have h1 := setIs_len (l.take k) rk.it
              have h2 := HRS.out.2
              have h3 := HLL.out.1
              rw [List.length_take] at h1
              exact ⟨by omega, setIs_srt HRS.out.1⟩
            have CC := refSet_any ci ai qs y wr.drew (HXq.out.it.kept (Kept.refl _ _ : Kept Nil wr wr).drew).itRow (by have := HQL.out.1; omega) HQL.out.2
            have HBr : Hid (wr.heap[b]? = some (.cells #[.pointer (some ⟨rb, 0, none⟩), .slice ai qs.length ci, .slice (some ⟨g5, 0, none⟩) rk.kb.length c5] 66 (0, 0))) := HXq.out.ho
            have s1 : wr.cell? ⟨b, 1, none⟩ = some (.slice ai qs.length ci) := blk_at HBr.out 1 rfl
            have hbr : b < wr.heap.size := lt_of_block HBr.out
            have hgr : g < wr.heap.size := World.block_lt_of_cell? wr _ d2
            clear hcell hblk e0 e1 HY HXr
            go_upto_region 11 with fail
            go_region_with (go_at_call 45; go_must (go_fit CC); rintro e w7 ⟨a7, c7, rfl, o7, k7⟩; have K7 : Hid (Kept Nil wr w7) := (Kept.refl _ _).drew.trans k7; have HH := HXq.out.items K7.out o7; have HF7 : Hid (HyX (GN G0 w1) (w7.setCell ⟨b, 1, none⟩ (.slice a7 (setI y qs).length c7)) b rb id ay cy a7 c7 g5 c5 { rk with it := setI y qs } ∧ Kept (TG (GN G0 w1)) w1 (w7.setCell ⟨b, 1, none⟩ (.slice a7 (setI y qs).length c7))) := ⟨HH.1.up (fun g hg => gn_gn HKr.out.size hg), HKr.out.trans HH.2⟩; have B7 : Hid (w7.heap[b]? = _) := K7.out.block _ _ HBr.out (fun e => e); have u1 := blk_at B7.out 1 rfl; have f1 : w7.frozen? ⟨b, 1, none⟩ = false := blk_free B7.out _; have hb7 : b < w7.heap.size := lt_of_block B7.out; clear HH o7 k7)
            all_goals
              go_wp2
              go_roundw
              · exact ⟨k + 1, i + 2, a7, c7, by omega, (by show i + 2 = 2 + 2 * (k + 1); have := Hik.out; omega), by congr 1, (by rw [HQN.out]; exact HF7.out.1), HF7.out.2⟩
              · simp [intOf]; omega
          · obtain rfl : k = l.length := by omega
            have hin : ¬ (i : Int) < (m : Int) := by have := HN.out; have := Hik.out; omega
            have HXe : Hid (HyX (GN G0 w1) wr b rb id ay cy ai ci g5 c5 { rk with it := setIs l rk.it }) := by have := HXr.out; rwa [List.take_length] at this
            have hsz := HK1.out.size
            have hup : ∀ g, GN G0 w1 g → GN G w g := fun g hg => by
              rcases hg with hg | hg
              · exact .inl (HGG.out g hg).1
              · exact .inr (by omega)
            go_wp2
            go_end0
            exact ⟨rfl, (HXe.out.up hup).m, Kept.next HK1.out.nilG (HKr.out.upG hup)⟩
end Go.Proofs.YtpfgnhockfofhaaGreat
