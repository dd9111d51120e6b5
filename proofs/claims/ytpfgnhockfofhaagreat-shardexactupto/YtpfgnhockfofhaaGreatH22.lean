/-
  Joined: WSh9, WShC.
-/
import Derived.Test.YtpfgnhockfofhaaGreatH16
import Derived.BigQuiet
import Derived.Test.YtpfgnhockfofhaaGreatH17
import Derived.Deep.RegionHeld3
/-
  Shards: unpack of what pack wrote.
-/
namespace Go.Proofs.YtpfgnhockfofhaaGreat
open Go.RowKit

theorem results_tmp4 {fn : Func} {t u v x : Tmp} (h : fn.results = #[.tmp t, .tmp u, .tmp v, .tmp x]) (tmps : Array Value) (P : Program) (w : World) :
    (results fn tmps).run P w = .ok (.tuple #[tmps.getD t undef, tmps.getD u undef, tmps.getD v undef, tmps.getD x undef]) w := by
  simp [results, h]
theorem frP_at : ∀ (l : List Pr) (j : Nat) (hj : j < l.length), (frP l)[2 * j]? = some l[j].k ∧ (frP l)[2 * j + 1]? = some l[j].v
  | [], j, hj => by simp at hj
  | x :: t, 0, _ => by simp [frP]
  | x :: t, j + 1, hj => by
    have h := frP_at t j (by simpa using hj)
    simp only [frP, show 2 * (j + 1) = 2 * j + 1 + 1 by omega, List.getElem?_cons_succ]
    simpa using h
theorem OwnTd.cellO {B c g j : Nat} {w : World} {ks : List (List UInt8)} {s : List UInt8} (h : OwnTd B w (some ⟨g, 0, .none⟩) c ks) (hj : ks[j]? = some s) : w.cell? ⟨g, j, .none⟩ = some (.string (bs s)) := by
  obtain ⟨hl, e⟩ := List.getElem?_eq_some_iff.1 hj
  rw [h.cellT hl, e]
theorem frB_len (fr up : List UInt8) (l : List Pr) : (frB fr up l).length = 2 + 2 * l.length := by unfold frB; rw [List.length_cons, List.length_cons, frP_len]; omega
set_option maxRecDepth 100000 in
set_option maxHeartbeats 4000000 in
theorem unpack_any (K : List (List UInt8)) (fr up : List UInt8) (l : List Pr) (w : World) (hf : fr.length ≤ 16) (hu : up.length ≤ 16) (hi : ∀ x ∈ l, itOk K x ∧ inR x.k fr up = true) (hl : l.length ≤ 4000000) :
    Calls Tryz.prog 80 #[.string (bs (packB fr up l))] w fun e w' => ∃ a c, e = .returned (.tuple #[.string (bs fr), .string (bs up), .slice a l.length c, .bool true]) ∧ OwnIt w.heap.size w' a c l ∧ Kept Nil w w' := by
  obtain ⟨i0, hi0, hz0, hz1, hz2⟩ := info_parts Tryz.infoOwnIt
  have hsm := frB_small hf hu (fun x hx => (hi x hx).1)
  have hfl := frames_le hsm
  have UF := unframeAll_any (frB fr up l) w (fun s hs => by have := hsm s hs; omega) (by rw [frB_len] at hfl; omega)
  obtain ⟨n, HN⟩ : ∃ n, Hid (n = 2 + 2 * l.length) := ⟨_, rfl⟩
  rw [frB_len, ← HN.out] at UF
  have HI : Hid (∀ x ∈ l, itOk K x ∧ inR x.k fr up = true) := hi
  have HL : Hid (l.length ≤ 4000000) := hl
  have hn2 : 2 ≤ n := by rw [HN.out]; omega
  have hn2i : ¬ (n : Int) < 2 := by omega
  have hnm : (n : Int).tmod 2 = 0 := by rw [HN.out]; exact Int.tmod_eq_zero_of_dvd ⟨1 + l.length, by omega⟩
  have HMX : Hid (l.length + 1 ≤ maxLen ∧ (l.length + 1) * 32 ≤ 140737488355328) := by constructor <;> (try unfold maxLen) <;> omega
  clear hsm hfl hi hl
  unfold packB
  go_enter Tryz.func80, Tryz.ntmps80
  go_wp2_with fail
  go_fit UF
  rintro e w1 ⟨a0, c0, rfl, o1, k1⟩
  have HO1 : Hid (OwnTd w.heap.size w1 a0 c0 (frB fr up l)) := o1
  have HK1 : Hid (Kept Nil w w1) := k1
  clear UF o1 k1
  obtain ⟨g, rfl⟩ : ∃ g, a0 = some ⟨g, 0, none⟩ := by
    obtain ⟨g, e, _⟩ := HO1.out.cell (j := 0) (by rw [frB_len]; omega)
    exact ⟨g, e⟩
  have HC0 : Hid (w1.cell? ⟨g, 0, none⟩ = some (.string (bs fr))) := HO1.out.cellO (by rfl)
  have HC1 : Hid (w1.cell? ⟨g, 1, none⟩ = some (.string (bs up))) := HO1.out.cellO (by rfl)
  have HCk : Hid (∀ j, (hj : j < l.length) → w1.cell? ⟨g, 2 + 2 * j, none⟩ = some (.string (bs l[j].k)) ∧ w1.cell? ⟨g, 2 + 2 * j + 1, none⟩ = some (.string (bs l[j].v))) := fun j hj => by
    obtain ⟨h1, h2⟩ := frP_at l j hj
    refine ⟨HO1.out.cellO ?_, HO1.out.cellO ?_⟩
    · rw [show 2 + 2 * j = 2 * j + 1 + 1 by omega]; unfold frB; simpa using h1
    · rw [show 2 + 2 * j + 1 = 2 * j + 1 + 1 + 1 by omega]; unfold frB; simpa using h2
  go_wp2
  go_loopw [4, 7] (fun u v wr => ∃ k i c : Nat, ∃ a : Option Addr, k ≤ l.length ∧ Hid (i = 2 + 2 * k) ∧ u = .slice a k c ∧ v = .int .i64 i ∧ Hid (OwnIt w1.heap.size wr a c (l.take k)) ∧ Hid (Kept Nil w1 wr)) (fun _ v _ => n - (intOf v).toNat)
  case atStart => exact ⟨0, 2, 0, none, Nat.zero_le _, rfl, rfl, rfl, World.ownsRow_nil _ _ _ _, Kept.refl _ _⟩
  case round =>
    obtain ⟨k, i, c, a, hk, Hik, rfl, rfl, HO, HK⟩ := hrel
    by_cases hlt : k < l.length
    · have hin : i < n := by rw [HN.out, Hik.out]; omega
      have hii : (i : Int) < (n : Int) := by omega
      have hi1 : i + 1 < n := by rw [HN.out, Hik.out]; omega
      have hii1 : (i : Int) + 1 < (n : Int) := by omega
      have hmx : (i : Int) + 2 ≤ 9000000000 := by have := HL.out; have := HN.out; omega
      obtain ⟨y, HY⟩ : ∃ y : Pr, Hid (y = l[k]) := ⟨l[k], (rfl : l[k] = l[k])⟩
      obtain ⟨e0, e1⟩ := HCk.out k hlt
      rw [← HY.out, ← Hik.out] at e0 e1
      have d0 : wr.cell? ⟨g, 0, none⟩ = some (.string (bs fr)) := cell_kept HK.out (fun _ x => x) HC0.out
      have d1 : wr.cell? ⟨g, 1, none⟩ = some (.string (bs up)) := cell_kept HK.out (fun _ x => x) HC1.out
      have d2 : wr.cell? ⟨g, i, none⟩ = some (.string (bs y.k)) := cell_kept HK.out (fun _ x => x) e0
      have d3 : wr.cell? ⟨g, i + 1, none⟩ = some (.string (bs y.v)) := cell_kept HK.out (fun _ x => x) e1
      have HYI : Hid (itOk K y ∧ inR y.k fr up = true) := by rw [HY.out]; exact HI.out _ (List.getElem_mem _)
      have IN := fun X => in_any y.k fr up X
      rw [HYI.out.2] at IN
      have hgl : g < wr.heap.size := World.block_lt_of_cell? wr _ d0
      go_upto_region 7 with fail
      go_cut [43] (fun x w5 => x = .bool false ∧ Hid (Kept Nil wr w5))
      case first =>
        go_wp2
        go_quiet (first | (go_at_call 60; exact Calls.quiet_of_same (IN _)))
        go_wp2
        go_meet
        exact ⟨rfl, (Kept.refl _ _).drewN _⟩
      case rest =>
        rename_i x0 wc
        obtain ⟨rfl, hkc⟩ := hcut
        have HKC : Hid (Kept Nil w1 wc) := HK.out.trans hkc.out
        have HOC : Hid (OwnIt w1.heap.size wc a c (l.take k)) := HO.out.kept hkc.out
        have f2 : wc.cell? ⟨g, i, none⟩ = some (.string (bs y.k)) := cell_kept HKC.out (fun _ x => x) e0
        have f3 : wc.cell? ⟨g, i + 1, none⟩ = some (.string (bs y.v)) := cell_kept HKC.out (fun _ x => x) e1
        have HKL : Hid ((l.take k).length = k) := by show _ = _; rw [List.length_take]; omega
        have HOR : Hid (wc.ownsRow w1.heap.size 75 2 (.slice a k c) k (itCells (l.take k))) := by have := HOC.out; unfold OwnIt at this; rwa [HKL.out] at this
        have HTK : Hid (l.take (k + 1) = l.take k ++ [y]) := by rw [HY.out]; exact List.take_succ_eq_append_getElem hlt
        have hsz : w1.heap.size ≤ wc.heap.size := HKC.out.size
        have HKM : Hid (k + 1 ≤ maxLen ∧ (k + 1) * 32 ≤ 140737488355328) := ⟨Nat.le_trans (by omega) HMX.out.1, Nat.le_trans (Nat.mul_le_mul_right _ (by omega)) HMX.out.2⟩
        have hge0 : 0 ≤ (i : Int) + 1 := by omega
        have hwr1 : IntKind.i64.wrap ((i : Int) + 1) = (i : Int) + 1 := by rw [IntKind.wrap_i64]; omega
        have hti : ((i : Int) + 1).toNat = i + 1 := by omega
        apply_assumption
        go_upto_region 9 with fail
        go_region_law (refine step_append_at rfl (.tmp 44) (.tmp 55) 64 64 rfl w1.heap.size 75 i0 (.agg #[.string ⟨#[]⟩, .string ⟨#[]⟩]) 2 32 Tryz.underlying64 hi0 hz0 hz1 hz2 rfl (.slice a k c) k (itCells (l.take k)) (by simp [Act.eval]) (World.ownsRow.alloc (w := wc.drew) HOR.out _) (.slice (some ⟨wc.heap.size, 0, none⟩) 1 1) 1 [.string (bs y.k), .string (bs y.v)] (by simp [Act.eval]) (oneOwnIt_src wc.drew y) HKM.out.1 HKM.out.2 (le_alloc (w := wc.drew) hsz _) ?_; intro a6 c6 w6 ho6 hg6 hat6; have HO6 : Hid (OwnIt w1.heap.size w6 a6 c6 (l.take (k + 1))) := (by rw [HTK.out]; exact OwnIt.push (by rw [HKL.out]; exact ho6)); have K6 : Hid (Kept Nil w1 w6) := (HKC.out.drew.alloc _).grown hg6 (fun q hq => own_row HOR.out q hq); clear ho6 hg6 hat6)
        all_goals
          go_wp2
          go_roundw
          · exact ⟨k + 1, i + 2, c6, a6, by omega, (by show i + 2 = 2 + 2 * (k + 1); rw [Hik.out]; omega), rfl, by congr 1, HO6.out, K6.out⟩
          · simp [intOf]; omega
    · obtain rfl : k = l.length := by omega
      have hin : ¬ (i : Int) < (n : Int) := by rw [HN.out, Hik.out]; omega
      have d0 : wr.cell? ⟨g, 0, none⟩ = some (.string (bs fr)) := cell_kept HK.out (fun _ x => x) HC0.out
      have d1 : wr.cell? ⟨g, 1, none⟩ = some (.string (bs up)) := cell_kept HK.out (fun _ x => x) HC1.out
      have hgl : g < wr.heap.size := World.block_lt_of_cell? wr _ d0
      have h1n : 1 < n := by omega
      have h0n : 0 < n := by omega
      have HOE : Hid (OwnIt w.heap.size wr a c l) := by
        have := HO.out
        rw [List.take_length] at this
        exact this.mono HK1.out.size
      go_wp2
      go_quiet (fail)
      go_wp2
      refine bodyPost_ret (results_tmp4 rfl _ _ _) rfl ?_
      exact ⟨a, c, rfl, HOE.out.kept ((Kept.refl _ _).drewN _), (HK1.out.trans HK.out).drewN _⟩
end Go.Proofs.YtpfgnhockfofhaaGreat

/-
  Shards: a host takes what came.
-/
namespace Go.Proofs.YtpfgnhockfofhaaGreat
open Go.RowKit

/-- A host's block alone. -/
def TB (b : Nat) : Nat → Obj → Prop := fun q o => q = b ∧ ∃ cs, o = .cells cs 82 (0, 0)
/-- A host's bounds have changed. -/
theorem HoX.keys {G : Nat → Prop} {w w2 : World} {b rb : Nat} {id : Int} {ao : Nat → Option Addr} {cs : Nat → Nat} {ai : Option Addr} {ci gk ck : Nat} {h : Hd} (x : HoX G w b rb id ao cs ai ci gk ck h) (k : Kept Nil w w2) {g c : Nat} {ks : List Bd} (o : OwnB w.heap.size w2 (some ⟨g, 0, none⟩) c ks) :
    HoX (GN G w) (w2.setCell ⟨b, 3, none⟩ (.slice (some ⟨g, 0, none⟩) ks.length c)) b rb id ao cs ai ci g c { h with kb := ks } ∧ Kept (TG G) w (w2.setCell ⟨b, 3, none⟩ (.slice (some ⟨g, 0, none⟩) ks.length c)) := by
  have x2 := x.kept k
  have hk : Kept (TB b) w2 (w2.setCell ⟨b, 3, none⟩ (.slice (some ⟨g, 0, none⟩) ks.length c)) := (Kept.refl _ _).setT (fun o ho => by
    have h2 := x2.ho
    unfold HoAt at h2
    rw [h2] at ho
    cases ho
    exact ⟨rfl, _, rfl⟩) _ _
  have hno : ∀ q t cs, t ≠ 82 → ¬ TB b q (.cells cs t (0, 0)) := fun q t cs n e => by
    obtain ⟨_, _, e⟩ := e
    cases e
    exact n rfl
  refine ⟨⟨blk_set x2.ho 3 _, .inl x.gb, .inl x.gr, (x2.rl.keptG hk (fun _ => hno _ _ _ (by decide)) (fun q _ _ => hno _ _ _ (by decide))).up (fun g hg => .inl hg), own_keptG x2.it hk (fun g _ _ => hno _ _ _ (by decide)), fun g hg => .inl (x.gi g hg), own_keptG (o.mono (Nat.zero_le _)) hk (fun g _ _ => hno _ _ _ (by decide)), .inr ?_⟩, (k.nilG : Kept (TG G) w w2).trans (hk.mono (fun q _ e => by rw [e.1]; exact x.gb))⟩
  exact (World.ownsRow.lt o g rfl).1
theorem vb_facts {ks : List Bd} (h : validB ks = true) : SrtB ks ∧ 0 < ks.length ∧ FitB ks := by
  obtain ⟨h1, h2⟩ := valid_sh.1 h
  refine ⟨h1.srt, h1.pos, fun p hp => ?_⟩
  have := h2 p hp
  unfold bdOk at this
  simp only [Bool.and_eq_true, decide_eq_true_eq] at this
  unfold maxLen
  omega
theorem HoX.bounds {G : Nat → Prop} {w : World} {b rb : Nat} {id : Int} {ao : Nat → Option Addr} {cs : Nat → Nat} {ai : Option Addr} {ci gk ck : Nat} {h : Hd} (x : HoX G w b rb id ao cs ai ci gk ck h) (hf : FitB h.kb) : BdRow w.heap.size w (some ⟨gk, 0, none⟩) h.kb := x.kb.row hf
theorem setIs_len : ∀ (l ps : List Pr), (setIs l ps).length ≤ ps.length + l.length
  | [], ps => Nat.le_refl _
  | x :: t, ps => by
    have h1 := setIs_len t (setI x ps)
    have h2 := setI_len x ps
    rw [List.length_cons]
    show (setIs t (setI x ps)).length ≤ _
    omega
theorem setIs_next {l ps : List Pr} {k : Nat} (hk : k < l.length) : setIs (l.take (k + 1)) ps = setI l[k] (setIs (l.take k) ps) := by
  unfold setIs
  rw [List.take_succ_eq_append_getElem hk, List.foldl_append]
  rfl
theorem own_ltI {B c : Nat} {w : World} {ao : Option Addr} {l : List Pr} (h : OwnIt B w ao c l) {g : Nat} (hg : (Value.slice ao l.length c).ownBlock = some g) : B ≤ g ∧ g < w.heap.size := World.ownsRow.lt h g hg
set_option maxRecDepth 100000 in
set_option maxHeartbeats 4000000 in
theorem take_any (K : List (List UInt8)) (M : Nat) (G : Nat → Prop) (b : Nat) (id : Int) (h : Hd) (body : List UInt8) (w : World) (x : HoM G w b id h) (ok : OkH K M h) (hb : GoodB K body) (hKM : K.length ≤ M) (hM : M ≤ 1900000) :
    Calls Tryz.prog 55 #[.pointer (some ⟨b, 0, none⟩), .string (bs body)] w fun e w' => e = .returned (.tuple #[]) ∧ HoM (GN G w) w' b id (takeHd id body h) ∧ Kept (TG G) w w' := by
  obtain ⟨fr, up, l, rfl, hf, hu, _, hs, hl⟩ := hb
  obtain ⟨rb, ao, cs, ai, ci, gk, ck, x⟩ := x
  have hTK : takeHd id (packB fr up l) h = ⟨h.os, setIs l h.it, setB h.kb fr up id⟩ := by unfold takeHd; rw [unp_pack hf hu (fun y hy => (hl y hy).1)]
  have hll : l.length ≤ M := Nat.le_trans (srt_len hs (fun y hy => (hl y hy).1)) hKM
  have hil : h.it.length ≤ M := Nat.le_trans ok.len hKM
  have UP := unpack_any K fr up l w hf hu hl (by omega)
  obtain ⟨v1, v2, v3⟩ := vb_facts ok.kv
  have hkl := ok.kl
  have HX : Hid (HoX (fun g => G g ∧ g < w.heap.size) w b rb id ao cs ai ci gk ck h) := x.lt
  have HOK : Hid (OkH K M h) := ok
  have HLL : Hid (l.length ≤ M ∧ h.it.length ≤ M) := ⟨hll, hil⟩
  obtain ⟨G0, HG0⟩ : ∃ G0 : Nat → Prop, Hid (G0 = fun g => G g ∧ g < w.heap.size) := ⟨_, rfl⟩
  rw [← HG0.out] at HX
  have HGG : Hid (∀ g, G0 g → G g ∧ g < w.heap.size) := fun g hg => by rw [HG0.out] at hg; exact hg
  obtain ⟨ks, HKS⟩ : ∃ ks, Hid (ks = setB h.kb fr up id) := ⟨_, rfl⟩
  obtain ⟨rk, HRK⟩ : ∃ rk : Hd, Hid (rk = { h with kb := ks }) := ⟨_, rfl⟩
  have HRE : Hid (⟨h.os, setIs l h.it, ks⟩ = ({ rk with it := setIs l rk.it } : Hd)) := by show _ = _; rw [HRK.out]
  rw [hTK, ← HKS.out, HRE.out]
  clear hTK hs hl ok x HG0
  go_enter Tryz.func55, Tryz.ntmps55
  go_wp2_with fail
  go_fit UP
  rintro e w1 ⟨a, c, rfl, o1, k1⟩
  have HO1 : Hid (OwnIt w.heap.size w1 a c l) := o1
  have HK1 : Hid (Kept Nil w w1) := k1
  have HX1 : Hid (HoX G0 w1 b rb id ao cs ai ci gk ck h) := HX.out.kept k1
  clear UP o1 k1
  go_upto_region 2 with fail
  have KD : Hid (Kept Nil w1 w1.drew) := (Kept.refl _ _).drew
  have HXD : Hid (HoX G0 w1.drew b rb id ao cs ai ci gk ck h) := HX1.out.kept KD.out
  have ST := set_any w1.drew.heap.size ck ⟨gk, 0, none⟩ h.kb fr up id w1.drew (HXD.out.bounds v3) v1 v2 (by obtain ⟨_, _, _, _, _, h1, _⟩ := HX1.out.kb.block (by simp); exact h1) (by obtain ⟨_, _, _, _, _, _, h1, _⟩ := HX1.out.kb.block (by simp); exact h1) (by omega) (by unfold maxLen; omega) (by unfold maxLen; omega)
  obtain ⟨nk, HNK⟩ : ∃ nk, Hid (nk = h.kb.length) := ⟨_, rfl⟩
  rw [← HKS.out] at ST
  have hho := HX1.out.ho
  unfold HoAt at hho
  rw [← HNK.out] at ST hho
  have HHO : Hid (w1.heap[b]? = some (.cells #[.pointer (some ⟨rb, 0, none⟩), .int .i64 id, .slice ai h.it.length ci, .slice (some ⟨gk, 0, none⟩) nk ck] 82 (0, 0))) := hho
  have c1 : w1.cell? ⟨b, 1, none⟩ = some (.int .i64 id) := blk_at HHO.out 1 rfl
  have c3 : w1.cell? ⟨b, 3, none⟩ = some (.slice (some ⟨gk, 0, none⟩) nk ck) := blk_at HHO.out 3 rfl
  have hbl : b < w1.heap.size := lt_of_block HHO.out
  clear hho v1 v2 v3
  go_cut [] (fun w5 => ∃ g' c', Hid (HoX (GN G0 w1) w5 b rb id ao cs ai ci g' c' { h with kb := ks }) ∧ Hid (Kept (TG G0) w1 w5))
  case first =>
    go_region_with (go_at_call 41; go_must (go_fit ST); rintro e w2 ⟨g2, d2, rfl, o2, k2⟩; have K2 : Hid (Kept Nil w1 w2) := (KD.out.trans k2); have HH2 := (HX1.out.keys K2.out (o2.mono (Nat.le_refl _))); have e3 : w2.cell? ⟨b, 3, none⟩ = some (.slice (some ⟨gk, 0, none⟩) nk ck) := cell_kept K2.out (fun _ x => x) c3; have f3 : w2.frozen? ⟨b, 3, none⟩ = false := blk_free (K2.out.block _ _ HHO.out (fun x => x)) _)
    all_goals
      go_wp2
      go_meet
      exact ⟨g2, d2, HH2.1, HH2.2⟩
  case rest =>
    rename World => w5
    obtain ⟨g5, c5, HX5, HK5⟩ := hcut
    have HO5 : Hid (OwnIt w.heap.size w5 a c l) := own_keptG HO1.out HK5.out (fun g cs hg e => by
      have h1 := (own_ltI HO1.out hg).1
      have h2 := (HGG.out g e).2
      omega)
    have HXk : Hid (HoX (GN G0 w1) w5 b rb id ao cs ai ci g5 c5 rk) := by rw [HRK.out]; exact HX5.out
    have HRS : Hid (Srt rk.it ∧ rk.it.length ≤ M) := by rw [HRK.out]; exact ⟨HOK.out.srt, HLL.out.2⟩
    apply_assumption
    go_wp2
    go_loopw [35] (fun u wr => ∃ k : Nat, ∃ ai ci, k ≤ l.length ∧ u = .int .i64 k ∧ Hid (HoX (GN G0 w1) wr b rb id ao cs ai ci g5 c5 { rk with it := setIs (l.take k) rk.it }) ∧ Hid (Kept (TG (GN G0 w1)) w1 wr)) (fun u _ => l.length - (intOf u).toNat)
    case atStart => exact ⟨0, ai, ci, Nat.zero_le _, rfl, HXk.out, HK5.out.upG (fun g hg => .inl hg)⟩
    case round =>
      obtain ⟨k, ai, ci, hk, rfl, HXr, HKr⟩ := hrel
      by_cases hlt : k < l.length
      · have hli : (k : Int) < (l.length : Int) := by omega
        have HOr : Hid (OwnIt w.heap.size wr a c l) := own_keptG HO1.out HKr.out (fun g cs hg e => by
          have h1 := own_ltI HO1.out hg
          rcases e with e | e
          · have h2 := (HGG.out g e).2; omega
          · omega)
        obtain ⟨g, eg, -, -, q0, q1, -, -⟩ := HOr.out.cells hlt
        subst eg
        obtain ⟨y, HY⟩ : ∃ y : Pr, Hid (y = l[k]) := ⟨l[k], (rfl : l[k] = l[k])⟩
        rw [← HY.out] at q0 q1
        obtain ⟨W, hW⟩ : ∃ W, W = wr.alloc (.cells #[.string (bs y.k), .string (bs y.v)] 75) := ⟨_, rfl⟩
        obtain ⟨A, HA⟩ : ∃ A, Hid (A = wr.heap.size) := ⟨_, rfl⟩
        have KW : Hid (Kept Nil wr W) := by rw [hW]; exact (Kept.refl _ _).alloc _
        have HAW : Hid (W.heap[A]? = some (.cells #[.string (bs y.k), .string (bs y.v)] 75 (0, 0))) := by rw [hW, HA.out]; exact blk_new _ _
        have SM := setM_any (GN G0 w1) b rb id ao cs ai ci g5 c5 { rk with it := setIs (l.take k) rk.it } y W (HXr.out.kept KW.out) (setIs_srt HRS.out.1) (by
          show (setIs (l.take k) rk.it).length < 4000000
          have h1 := setIs_len (l.take k) rk.it
          have h2 := HRS.out.2
          have h3 := HLL.out.1
          rw [List.length_take] at h1
          omega)
        have q0 : W.cell? ⟨A, 0, none⟩ = some (.string (bs y.k)) := blk_at HAW.out 0 rfl
        have q1 : W.cell? ⟨A, 1, none⟩ = some (.string (bs y.v)) := blk_at HAW.out 1 rfl
        have hwW : wr.heap.size ≤ W.heap.size := KW.out.size
        go_upto_region 6 with fail
        rw [← hW, ← HA.out]
        clear hW
        go_wp2_with fail
        go_fit SM
        rintro e w6 ⟨rfl, ⟨ai6, ci6, x6⟩, k6⟩
        have hup : ∀ g, GN (GN G0 w1) W g → GN G0 w1 g := fun g hg => gn_gn (Nat.le_trans HKr.out.size hwW) hg
        have HX6 : Hid (HoX (GN G0 w1) w6 b rb id ao cs ai6 ci6 g5 c5 { rk with it := setIs (l.take (k + 1)) rk.it }) := by rw [setIs_next hlt, ← HY.out]; exact x6.up hup
        have HK6 : Hid (Kept (TG (GN G0 w1)) w1 w6) := (HKr.out.trans KW.out.nilG).trans k6
        clear SM x6 k6 hup
        go_wp2
        go_roundw
        case rel => exact ⟨k + 1, ai6, ci6, by omega, by congr 1, HX6.out, HK6.out⟩
        case measure => simp [intOf]; omega
      · obtain rfl : k = l.length := by omega
        have HXe : Hid (HoX (GN G0 w1) wr b rb id ao cs ai ci g5 c5 { rk with it := setIs l rk.it }) := by have := HXr.out; rwa [List.take_length] at this
        have hsz := HK1.out.size
        have hup : ∀ g, GN G0 w1 g → GN G w g := fun g hg => by
          rcases hg with hg | hg
          · exact .inl (HGG.out g hg).1
          · exact .inr (by omega)
        go_wp2
        go_end0
        exact ⟨rfl, (HXe.out.up hup).m, Kept.next HK1.out.nilG (HKr.out.upG hup)⟩
end Go.Proofs.YtpfgnhockfofhaaGreat
