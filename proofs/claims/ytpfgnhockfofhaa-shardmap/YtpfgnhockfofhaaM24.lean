/-
  Joined: WShF.
-/
import Derived.Test.YtpfgnhockfofhaaM21
import Derived.Test.YtpfgnhockfofhaaM23
/-
  Shards: a host gives a range.
-/
namespace Go.Proofs.Ytpfgnhockfofhaa
open Go.RowKit

/-- A host's relay has changed. -/
theorem HoX.relay {G : Nat → Prop} {w w' : World} {b rb : Nat} {id : Int} {ao ao' : Nat → Option Addr} {cs cs' : Nat → Nat} {ai : Option Addr} {ci gk ck : Nat} {h : Hd} {os' : Nat → Oh} (x : HoX G w b rb id ao cs ai ci gk ck h) (r : Rl (GN G w) w' rb id os' ao' cs') (k : Kept (TX G rb) w w') :
    HoX (GN G w) w' b rb id ao' cs' ai ci gk ck { h with os := os' } ∧ Kept (TG G) w w' := by
  have hno : ∀ q t cs, t ≠ 90 → t ≠ 9 → ¬ TX G rb q (.cells cs t (0, 0)) := fun q t cs n1 n2 e => by
    rcases e with ⟨_, _, e⟩ | ⟨_, _, e⟩ <;> (cases e; first | exact n1 rfl | exact n2 rfl)
  refine ⟨⟨k.block _ _ x.ho (hno _ _ _ (by decide) (by decide)), .inl x.gb, .inl x.gr, r, own_keptG x.it k (fun g _ _ => hno _ _ _ (by decide) (by decide)), fun g hg => .inl (x.gi g hg), own_keptG x.kb k (fun g _ _ => hno _ _ _ (by decide) (by decide)), .inl x.gk⟩, k.mono (fun q o e => ?_)⟩
  rcases e with ⟨rfl, _⟩ | ⟨e, _⟩
  · exact x.gr
  · exact e
theorem delI_self (i : Nat) (ps : List Pr) : delI i i ps = ps := by unfold delI; exact List.take_append_drop i ps
theorem deleteI_all (B c i J : Nat) (ao : Option Addr) (ps : List Pr) (w : World) (h : OwnIt B w ao c ps) (hi : i ≤ J) (hJ : J ≤ ps.length) (hn : ps.length < 4000000) :
    Calls Try.prog 54 #[.slice ao ps.length c, .int .i64 i, .int .i64 J] w fun e w' => e = .returned (.slice ao (ps.length - (J - i)) c) ∧ OwnIt B w' ao c (delI i J ps) ∧ w.grownBy w' (Value.slice ao ps.length c).ownBlock := by
  by_cases e : i = J
  · subst e
    have hc : ps.length ≤ c ∧ c ≤ 9223372036854775807 := by
      cases ao with
      | none =>
        obtain ⟨h1, h2⟩ := h.none
        rw [h1, h2]
        exact ⟨Nat.zero_le _, by omega⟩
      | some a =>
        obtain ⟨_, _, _, _, _, h1, h2, _⟩ := h.block (by simp)
        unfold maxLen at h2
        exact ⟨h1, by omega⟩
    refine (deleteI_none c i ps.length ao w hJ hc.1 hc.2).mono ?_
    rintro e w' ⟨rfl, rfl⟩
    rw [delI_self, Nat.sub_self, Nat.sub_zero]
    exact ⟨rfl, h, grown_reflK _ _⟩
  · exact deleteI_any B c i J ao ps w h (by omega) hJ hn
theorem mid_len {fr up : List UInt8} {ps : List Pr} : (midP fr up ps).length = endP up ps - lowP fr ps := by
  have := end_le up ps
  unfold midP
  rw [List.length_take, List.length_drop]
  omega
/-- The row of a range of items. -/
theorem OwnIt.mid {B c g : Nat} {w : World} {ps : List Pr} (h : OwnIt B w (some ⟨g, 0, .none⟩) c ps) (fr up : List UInt8) : ItRow w (some ⟨g, lowP fr ps * 2, .none⟩) (midP fr up ps) := fun j hj => by
  rw [mid_len] at hj
  have he := end_le up ps
  have hjl : lowP fr ps + j < ps.length := by omega
  obtain ⟨g', e, _, _, c0, c1, _⟩ := h.cells hjl
  cases e
  have hget : (midP fr up ps)[j]'(by rw [mid_len]; exact hj) = ps[lowP fr ps + j] := by unfold midP; rw [List.getElem_take, List.getElem_drop]
  refine ⟨_, rfl, ?_, ?_⟩
  · rw [Addr.add_lit, hget, ← c0]; congr 2; omega
  · rw [Addr.add_lit, hget, ← c1]
    show w.cell? ⟨g, lowP fr ps * 2 + j * 2 + 1, .none⟩ = _
    congr 2; omega
set_option maxRecDepth 100000 in
set_option maxHeartbeats 8000000 in
theorem give_any (K : List (List UInt8)) (M dst : Nat) (G : Nat → Prop) (b : Nat) (id : Int) (h : Hd) (fr up : List UInt8) (w : World) (x : HoM G w b id h) (ok : OkH K M h) (hKM : K.length ≤ M) (hM : M ≤ 1900000) (hf : fr.length ≤ 16) (hu : up.length ≤ 16) (hd : dst < 10) (hoth : isOth id dst = true) :
    Calls Try.prog 40 #[.pointer (some ⟨b, 0, none⟩), .string (bs fr), .string (bs up), .int .i64 dst] w fun e w' => e = .returned (.int .i64 (giveHd id fr up dst h).1) ∧ HoM (GN G w) w' b id (giveHd id fr up dst h).2 ∧ Kept (TG G) w w' := by
  obtain ⟨rb, ao, cs, ai, ci, gk, ck, x⟩ := x
  obtain ⟨v1, v2, v3⟩ := vb_facts ok.kv
  have hkl := ok.kl
  have HOK : Hid (OkH K M h) := ok
  have hil : h.it.length ≤ M := Nat.le_trans ok.len hKM
  obtain ⟨G1, HG1⟩ : ∃ G1 : Nat → Prop, Hid (G1 = GN G w) := ⟨_, rfl⟩
  have HX : Hid (HoX G1 w b rb id ao cs ai ci gk ck h) := by rw [HG1.out]; exact x.up (fun g hg => .inl hg)
  have HUP : Hid (∀ wk : World, w.heap.size ≤ wk.heap.size → ∀ g, GN G1 wk g → G1 g) := fun wk hwk g hg => by
    rw [HG1.out] at hg ⊢
    exact gn_gn hwk hg
  have HEND : Hid (∀ wk : World, Kept (TG G1) w wk → Kept (TG G) w wk) := fun wk hk => Kept.next (Kept.refl _ _) (by rw [HG1.out] at hk; exact hk)
  rw [← HG1.out]
  have HHO : Hid (w.heap[b]? = some (.cells #[.pointer (some ⟨rb, 0, none⟩), .int .i64 id, .slice ai h.it.length ci, .slice (some ⟨gk, 0, none⟩) h.kb.length ck] 114 (0, 0))) := x.ho
  have HA := has_any w.heap.size ck ⟨gk, 0, none⟩ h.kb fr up id w.drew ((x.kept (Kept.refl _ _).drew).bounds v3) v1 (by omega)
  have c3 : w.cell? ⟨b, 3, none⟩ = some (.slice (some ⟨gk, 0, none⟩) h.kb.length ck) := blk_at HHO.out 3 rfl
  have c1 : w.cell? ⟨b, 1, none⟩ = some (.int .i64 id) := blk_at HHO.out 1 rfl
  have hbl : b < w.heap.size := lt_of_block HHO.out
  obtain ⟨hz, HZ⟩ : ∃ hz, Hid (hz = hasB h.kb fr up id) := ⟨_, rfl⟩
  rw [← HZ.out] at HA
  obtain ⟨rs, HRS⟩ : ∃ rs, Hid (rs = giveHd id fr up dst h) := ⟨_, rfl⟩
  rw [← HRS.out]
  clear x HG1
  go_enter Try.func40, Try.ntmps40
  go_upto_region 1 with fail
  go_cut [24] (fun x w5 => x = .bool (!hz) ∧ Hid (Kept Nil w w5))
  case first =>
    go_region_with (go_at_call 51; go_must (go_fit HA); rintro e w2 ⟨rfl, k2⟩; have K2 : Hid (Kept Nil w w2) := ((Kept.refl _ _).drew.trans k2))
    all_goals
      go_wp2
      go_meet
      exact ⟨rfl, K2.out⟩
  case rest =>
    rename World => w5
    obtain ⟨rfl, HK5⟩ := hcut
    have HX5 : Hid (HoX G1 w5 b rb id ao cs ai ci gk ck h) := HX.out.kept HK5.out
    clear HA c3 c1
    apply_assumption
    cases hz with
    | false =>
      have HR1 : Hid (rs = (14, h)) := by show rs = _; rw [HRS.out]; unfold giveHd; rw [if_pos HZ.out.symm]
      go_wp2
      go_ret
      rw [HR1.out]
      exact ⟨rfl, HX5.out.m, HEND.out _ HK5.out.nilG⟩
    | true =>
      have hsm : someR fr up = true := by
        cases hs : someR fr up
        · have := HZ.out; unfold hasB at this; rw [hs] at this; cases this
        · rfl
      obtain ⟨lo, HLo⟩ : ∃ lo, Hid (lo = lowP fr h.it) := ⟨_, rfl⟩
      obtain ⟨en, HEn⟩ : ∃ en, Hid (en = endP up h.it) := ⟨_, rfl⟩
      have hle : lo ≤ en := by rw [HLo.out, HEn.out]; exact first_end HOK.out.srt hsm
      have hel : en ≤ h.it.length := by rw [HEn.out]; exact end_le _ _
      have HBK : Hid (hasB h.kb fr up id = true) := HZ.out.symm
      clear hsm
      have F1 := findH_any 0 b rb ci h.kb.length ck id ai (some ⟨gk, 0, none⟩) h.it fr w5 HX5.out.it HOK.out.srt (by omega) HX5.out.ho
      rw [← HLo.out] at F1
      generalize isThere fr h.it = th at F1
      go_wp2_with fail
      go_fit F1
      rintro e w6 ⟨rfl, k6⟩
      have HX6 : Hid (HoX G1 w6 b rb id ao cs ai ci gk ck h) := HX5.out.kept k6
      have HK6 : Hid (Kept Nil w w6) := HK5.out.trans k6
      have c2 : w6.cell? ⟨b, 2, none⟩ = some (.slice ai h.it.length ci) := blk_at HX6.out.ho 2 rfl
      clear F1 k6
      go_upto_if 37 with fail
      go_cut [11] (fun x w7 => x = .int .i64 en ∧ Hid (Kept Nil w6 w7))
      case first =>
        by_cases hu0 : up = []
        · have hemp : (bs up).toList.isEmpty = true := by rw [bs_toList, hu0]; rfl
          rw [hemp]
          have HEE : Hid (en = h.it.length) := by show en = _; rw [HEn.out]; unfold endP; rw [if_pos hu0]
          clear hu0
          go_wp2
          go_meet
          exact ⟨by rw [HEE.out], Kept.refl _ _⟩
        · have hemp : (bs up).toList.isEmpty = false := by rw [bs_toList]; cases up with | nil => exact absurd rfl hu0 | cons _ _ => rfl
          rw [hemp]
          have HEE : Hid (en = lowP up h.it) := by show en = _; rw [HEn.out]; unfold endP; rw [if_neg hu0]
          have F2 := findH_any 0 b rb ci h.kb.length ck id ai (some ⟨gk, 0, none⟩) h.it up w6 HX6.out.it HOK.out.srt (by omega) HX6.out.ho
          rw [← HEE.out] at F2
          generalize isThere up h.it = th2 at F2
          clear hu0
          go_wp2_with fail
          go_fit F2
          rintro e w7 ⟨rfl, k7⟩
          go_wp2
          go_meet
          exact ⟨rfl, k7⟩
      case rest =>
        rename World => w7
        obtain ⟨rfl, hk7⟩ := hcut
        have HX7 : Hid (HoX G1 w7 b rb id ao cs ai ci gk ck h) := HX6.out.kept hk7.out
        have HK7 : Hid (Kept Nil w w7) := HK6.out.trans hk7.out
        clear hk7 c2
        apply_assumption
        obtain ⟨md, HMd⟩ : ∃ md, Hid (md = midP fr up h.it) := ⟨_, rfl⟩
        obtain ⟨body, HBd⟩ : ∃ body, Hid (body = packB fr up md) := ⟨_, rfl⟩
        have HML : Hid (md.length = en - lo) := by show _ = _; rw [HMd.out, mid_len, HEn.out, HLo.out]
        have HMI : Hid (∀ x ∈ md, itOk K x) := fun x hx => by rw [HMd.out] at hx; exact HOK.out.its x (mid_mem hx)
        have hce : h.it.length ≤ ci ∧ ci ≤ 9223372036854775807 := by
          cases hai : ai with
          | none =>
            have := HX7.out.it
            rw [hai] at this
            obtain ⟨h1, h2⟩ := this.none
            rw [h1, h2]
            exact ⟨Nat.zero_le _, by omega⟩
          | some a =>
            obtain ⟨_, _, _, _, _, h1, h2, _⟩ := HX7.out.it.block (by rw [hai]; simp)
            unfold maxLen at h2
            exact ⟨h1, by omega⟩
        obtain ⟨hlc, hcm⟩ := hce
        have hlei : (lo : Int) ≤ (en : Int) := by omega
        have heli : (en : Int) ≤ (ci : Int) := by omega
        have helc : en ≤ ci := by omega
        have c0 : w7.cell? ⟨b, 0, none⟩ = some (.pointer (some ⟨rb, 0, none⟩)) := blk_at HX7.out.ho 0 rfl
        have c2 : w7.cell? ⟨b, 2, none⟩ = some (.slice ai h.it.length ci) := blk_at HX7.out.ho 2 rfl
        have hb7 : b < w7.heap.size := lt_of_block HX7.out.ho
        go_upto_region 7 with fail
        go_cut [12] (fun x w8 => (x = .int .i64 4 ∧ Hid ((h.os dst).wt.length = 16) ∧ Hid (Kept Nil w7 w8)) ∨ (x = .int .i64 0 ∧ Hid (¬ (h.os dst).wt.length = 16) ∧ ∃ ao' cs', Hid (HoX G1 w8 b rb id ao' cs' ai ci gk ck { h with os := upd h.os dst (sendO (h.os dst) body) }) ∧ Hid (Kept (TG G1) w7 w8)))
        case first =>
          by_cases hcc : ci = lo
          · have HM0 : Hid (md = []) := by show md = []; exact List.eq_nil_of_length_eq_zero (by rw [HML.out]; omega)
            have PK := pack_any K fr up 0 ai md w7.drew (fun j hj => by rw [HM0.out] at hj; simp at hj) hf hu HMI.out (by rw [HML.out]; omega)
            rw [← HBd.out, show md.length = 0 by rw [HM0.out]; rfl] at PK
            by_cases hfl : (h.os dst).wt.length = 16
            · have HFL : Hid ((h.os dst).wt.length = 16) := hfl
              clear hfl
              go_region_with (first | (go_at_call 53; go_must (go_fit PK); rintro e w8 ⟨rfl, k8⟩; have K8 : Hid (Kept Nil w7 w8) := ((Kept.refl _ _).drew.trans k8); have X8 : Hid (HoX G1 w8 b rb id ao cs ai ci gk ck h) := HX7.out.kept K8.out; have e0 : w8.cell? ⟨b, 0, none⟩ = some (.pointer (some ⟨rb, 0, none⟩)) := blk_at X8.out.ho 0 rfl; have SE := send_full G1 rb dst id body h.os ao cs w8 X8.out.rl hd hoth HFL.out) | (go_at_call 7; go_must (go_fit SE); rintro e w9 ⟨rfl, rfl⟩))
              all_goals
                go_wp2
                go_meet
                exact .inl ⟨rfl, HFL.out, K8.out⟩
            · have HFL : Hid ((h.os dst).wt.length < 16) := by have := (HOK.out.nu dst hd).2.1; show _ < _; omega
              have HFN : Hid (¬ (h.os dst).wt.length = 16) := hfl
              clear hfl
              go_region_with (first | (go_at_call 53; go_must (go_fit PK); rintro e w8 ⟨rfl, k8⟩; have K8 : Hid (Kept Nil w7 w8) := ((Kept.refl _ _).drew.trans k8); have X8 : Hid (HoX G1 w8 b rb id ao cs ai ci gk ck h) := HX7.out.kept K8.out; have e0 : w8.cell? ⟨b, 0, none⟩ = some (.pointer (some ⟨rb, 0, none⟩)) := blk_at X8.out.ho 0 rfl; have SE := send_yes G1 rb dst id body h.os ao cs w8 X8.out.rl hd hoth HFL.out) | (go_at_call 7; go_must (go_fit SE); rintro e w9 ⟨rfl, ⟨a9, c9, r9⟩, k9⟩))
              all_goals
                have HR9 := X8.out.relay r9 k9
                have HN9 : Hid (HoX G1 w9 b rb id (upd ao dst a9) (upd cs dst c9) ai ci gk ck { h with os := upd h.os dst (sendO (h.os dst) body) }) := HR9.1.up (HUP.out w8 (Nat.le_trans HK7.out.size K8.out.size))
                have HK9 : Hid (Kept (TG G1) w7 w9) := K8.out.nilG.trans HR9.2
                clear r9 k9 HR9
                go_wp2
                go_meet
                exact .inr ⟨rfl, HFN.out, _, _, HN9.out, HK9.out⟩
          · obtain ⟨g, eg⟩ : ∃ g, ai = some ⟨g, 0, none⟩ := by
              cases hai : ai with
              | none =>
                have := HX7.out.it
                rw [hai] at this
                obtain ⟨h1, h2⟩ := this.none
                omega
              | some a =>
                obtain ⟨g, _, e, _⟩ := HX7.out.it.block (by rw [hai]; simp)
                rw [hai] at e
                exact ⟨g, e⟩
            have EG : Hid (ai = some ⟨g, 0, none⟩) := eg
            rw [eg] at c2
            have hit := HX7.out.it
            rw [eg] at hit
            clear eg
            have PK := pack_any K fr up (ci - lo) (some ⟨g, lo * 2, none⟩) md w7.drew (by rw [HMd.out, HLo.out]; exact (hit.mid fr up).kept (Kept.refl _ _).drew) hf hu HMI.out (by rw [HML.out]; omega)
            rw [← HBd.out, HML.out] at PK
            by_cases hfl : (h.os dst).wt.length = 16
            · have HFL : Hid ((h.os dst).wt.length = 16) := hfl
              clear hfl
              go_region_with (first | (go_at_call 53; go_must (go_fit PK); rintro e w8 ⟨rfl, k8⟩; have K8 : Hid (Kept Nil w7 w8) := ((Kept.refl _ _).drew.trans k8); have X8 : Hid (HoX G1 w8 b rb id ao cs ai ci gk ck h) := HX7.out.kept K8.out; have e0 : w8.cell? ⟨b, 0, none⟩ = some (.pointer (some ⟨rb, 0, none⟩)) := blk_at X8.out.ho 0 rfl; have SE := send_full G1 rb dst id body h.os ao cs w8 X8.out.rl hd hoth HFL.out) | (go_at_call 7; go_must (go_fit SE); rintro e w9 ⟨rfl, rfl⟩))
              all_goals
                go_wp2
                go_meet
                exact .inl ⟨rfl, HFL.out, K8.out⟩
            · have HFL : Hid ((h.os dst).wt.length < 16) := by have := (HOK.out.nu dst hd).2.1; show _ < _; omega
              have HFN : Hid (¬ (h.os dst).wt.length = 16) := hfl
              clear hfl
              go_region_with (first | (go_at_call 53; go_must (go_fit PK); rintro e w8 ⟨rfl, k8⟩; have K8 : Hid (Kept Nil w7 w8) := ((Kept.refl _ _).drew.trans k8); have X8 : Hid (HoX G1 w8 b rb id ao cs ai ci gk ck h) := HX7.out.kept K8.out; have e0 : w8.cell? ⟨b, 0, none⟩ = some (.pointer (some ⟨rb, 0, none⟩)) := blk_at X8.out.ho 0 rfl; have SE := send_yes G1 rb dst id body h.os ao cs w8 X8.out.rl hd hoth HFL.out) | (go_at_call 7; go_must (go_fit SE); rintro e w9 ⟨rfl, ⟨a9, c9, r9⟩, k9⟩))
              all_goals
                have HR9 := X8.out.relay r9 k9
                have HN9 : Hid (HoX G1 w9 b rb id (upd ao dst a9) (upd cs dst c9) ai ci gk ck { h with os := upd h.os dst (sendO (h.os dst) body) }) := HR9.1.up (HUP.out w8 (Nat.le_trans HK7.out.size K8.out.size))
                have HK9 : Hid (Kept (TG G1) w7 w9) := K8.out.nilG.trans HR9.2
                clear r9 k9 HR9
                go_wp2
                go_meet
                exact .inr ⟨rfl, HFN.out, _, _, HN9.out, HK9.out⟩
        case rest =>
          rename World => w8
          clear c0 c2 hb7
          apply_assumption
          rcases hcut with ⟨rfl, HF, HK8⟩ | ⟨rfl, HF, ao', cs', HX8, HK8⟩
          · have HR1 : Hid (rs = (4, h)) := by show rs = _; rw [HRS.out]; unfold giveHd; rw [if_neg (by rw [HBK.out]; decide), if_pos HF.out]
            go_wp2
            go_ret
            rw [HR1.out]
            exact ⟨rfl, (HX7.out.kept HK8.out).m, HEND.out _ (HK7.out.trans HK8.out).nilG⟩
          · obtain ⟨h2, Hh2⟩ : ∃ h2 : Hd, Hid (h2 = { h with os := upd h.os dst (sendO (h.os dst) body) }) := ⟨_, rfl⟩
            have HR1 : Hid (rs = (0, { h2 with it := delI lo en h2.it, kb := setB h2.kb fr up dst })) := by show rs = _; rw [HRS.out, Hh2.out]; unfold giveHd; rw [if_neg (by rw [HBK.out]; decide), if_neg HF.out, ← HLo.out, ← HEn.out, ← HMd.out, ← HBd.out]
            have HXa : Hid (HoX G1 w8 b rb id ao' cs' ai ci gk ck h2) := by rw [Hh2.out]; exact HX8.out
            have HLn : Hid (h2.it.length = h.it.length) := by show _ = _; rw [Hh2.out]
            have HVB : Hid (SrtB h2.kb ∧ 0 < h2.kb.length ∧ FitB h2.kb ∧ h2.kb.length ≤ 4000000 ∧ Srt h2.it) := by rw [Hh2.out]; exact ⟨v1, v2, v3, (by show h.kb.length ≤ 4000000; omega), HOK.out.srt⟩
            have hl2 : en ≤ h2.it.length := by rw [HLn.out]; exact hel
            have hm2 : h2.it.length ≤ M := by rw [HLn.out]; exact hil
            have hK8 : Hid (Kept (TG G1) w w8) := HK7.out.nilG.trans HK8.out
            clear HX8 HK8 HX HX5 HX6 HX7 HK5 HK6 hel heli hil hlc
            have DE := deleteI_all 0 ci lo en ai h2.it w8 HXa.out.it hle hl2 (by omega)
            obtain ⟨nl, HNl⟩ : ∃ nl, Hid (nl = h2.it.length - (en - lo)) := ⟨_, rfl⟩
            rw [← HNl.out] at DE
            have HHO8 : Hid (w8.heap[b]? = some (.cells #[.pointer (some ⟨rb, 0, none⟩), .int .i64 id, .slice ai h2.it.length ci, .slice (some ⟨gk, 0, none⟩) h2.kb.length ck] 114 (0, 0))) := HXa.out.ho
            have d2 : w8.cell? ⟨b, 2, none⟩ = some (.slice ai h2.it.length ci) := blk_at HHO8.out 2 rfl
            go_wp2_with fail
            go_fit DE
            rintro e w9 ⟨rfl, o9, g9⟩
            have SP := HXa.out.deleted HVB.out.2.2.2.2 hle hl2 o9 HNl.out g9
            have HB9 : Hid (w9.heap[b]? = some (.cells #[.pointer (some ⟨rb, 0, none⟩), .int .i64 id, .slice ai h2.it.length ci, .slice (some ⟨gk, 0, none⟩) h2.kb.length ck] 114 (0, 0))) := by
              show w9.heap[b]? = _
              rw [show w9.heap[b]? = w8.heap[b]? from g9.block b (lt_of_block HHO8.out) (fun e => ownIt_ne HXa.out.it HHO8.out (by decide) e.symm)]
              exact HHO8.out
            have e2 : w9.cell? ⟨b, 2, none⟩ = some (.slice ai h2.it.length ci) := blk_at HB9.out 2 rfl
            have f2 : w9.frozen? ⟨b, 2, none⟩ = false := blk_free HB9.out _
            have hb9 : b < w9.heap.size := lt_of_block HB9.out
            obtain ⟨V, hV⟩ : ∃ V, V = w9.setCell ⟨b, 2, none⟩ (.slice ai nl ci) := ⟨_, rfl⟩
            rw [← hV] at SP
            obtain ⟨⟨ai8, ci8, x8⟩, k8⟩ := HXa.out.items SP
            have HXV : Hid (HoX G1 V b rb id ao' cs' ai8 ci8 gk ck { h2 with it := delI lo en h2.it }) := x8.up (HUP.out w8 hK8.out.size)
            have HKV : Hid (Kept (TG G1) w V) := hK8.out.trans k8
            clear DE SP x8 k8 o9 g9 d2
            go_upto_region 11 with fail
            rw [← hV]
            clear hV e2 f2
            have ST := set_any V.heap.size ck ⟨gk, 0, none⟩ h2.kb fr up dst V (HXV.out.bounds HVB.out.2.2.1) HVB.out.1 HVB.out.2.1 (by obtain ⟨_, _, _, _, _, h1, _⟩ := HXV.out.kb.block (by simp); exact h1) (by obtain ⟨_, _, _, _, _, _, h1, _⟩ := HXV.out.kb.block (by simp); exact h1) (by have := HVB.out.2.2.2.1; omega) (by unfold maxLen; omega) (by unfold maxLen; omega)
            obtain ⟨ks, HKS⟩ : ∃ ks, Hid (ks = setB h2.kb fr up dst) := ⟨_, rfl⟩
            rw [← HKS.out] at ST
            have d3 : V.cell? ⟨b, 3, none⟩ = some (.slice (some ⟨gk, 0, none⟩) h2.kb.length ck) := blk_at HXV.out.ho 3 rfl
            have hbV : b < V.heap.size := lt_of_block HXV.out.ho
            go_wp2_with fail
            go_fit ST
            rintro e w10 ⟨g2, d10, rfl, o10, k10⟩
            have HH := HXV.out.keys k10 o10
            have e3 : w10.cell? ⟨b, 3, none⟩ = some (.slice (some ⟨gk, 0, none⟩) h2.kb.length ck) := cell_kept k10 (fun _ x => x) d3
            have f3 : w10.frozen? ⟨b, 3, none⟩ = false := blk_free (k10.block _ _ HXV.out.ho (fun x => x)) _
            have HFin : Hid (HoM G1 (w10.setCell ⟨b, 3, none⟩ (.slice (some ⟨g2, 0, none⟩) ks.length d10)) b id { h2 with it := delI lo en h2.it, kb := ks } ∧ Kept (TG G) w (w10.setCell ⟨b, 3, none⟩ (.slice (some ⟨g2, 0, none⟩) ks.length d10))) := ⟨(HH.1.up (HUP.out V HKV.out.size)).m, HEND.out _ (HKV.out.trans HH.2)⟩
            clear ST HH k10 o10
            go_wp2
            go_ret
            rw [HR1.out]
            exact ⟨rfl, by rw [← HKS.out]; exact HFin.out.1, HFin.out.2⟩
end Go.Proofs.Ytpfgnhockfofhaa
