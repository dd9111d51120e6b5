/-
  Joined: WShC, WShD.
-/
import Derived.Test.YtpfgnhockfofhaaM15
import Derived.Test.YtpfgnhockfofhaaM19
import Derived.Deep.RegionHeld3
/-
  Shards: a host takes what came.
-/
namespace Go.Proofs.Ytpfgnhockfofhaa
open Go.RowKit

/-- A host's block alone. -/
def TB (b : Nat) : Nat → Obj → Prop := fun q o => q = b ∧ ∃ cs, o = .cells cs 114 (0, 0)
/-- A host's bounds have changed. -/
theorem HoX.keys {G : Nat → Prop} {w w2 : World} {b rb : Nat} {id : Int} {ao : Nat → Option Addr} {cs : Nat → Nat} {ai : Option Addr} {ci gk ck : Nat} {h : Hd} (x : HoX G w b rb id ao cs ai ci gk ck h) (k : Kept Nil w w2) {g c : Nat} {ks : List Bd} (o : OwnB w.heap.size w2 (some ⟨g, 0, none⟩) c ks) :
    HoX (GN G w) (w2.setCell ⟨b, 3, none⟩ (.slice (some ⟨g, 0, none⟩) ks.length c)) b rb id ao cs ai ci g c { h with kb := ks } ∧ Kept (TG G) w (w2.setCell ⟨b, 3, none⟩ (.slice (some ⟨g, 0, none⟩) ks.length c)) := by
  have x2 := x.kept k
  have hk : Kept (TB b) w2 (w2.setCell ⟨b, 3, none⟩ (.slice (some ⟨g, 0, none⟩) ks.length c)) := (Kept.refl _ _).setT (fun o ho => by
    have h2 := x2.ho
    unfold HoAt at h2
    rw [h2] at ho
    cases ho
    exact ⟨rfl, _, rfl⟩) _ _
  have hno : ∀ q t cs, t ≠ 114 → ¬ TB b q (.cells cs t (0, 0)) := fun q t cs n e => by
    obtain ⟨_, _, e⟩ := e
    cases e
    exact n rfl
  refine ⟨⟨blk_set x2.ho 3 _, .inl x.gb, .inl x.gr, (x2.rl.keptG hk (fun _ => hno _ _ _ (by decide)) (fun q _ _ => hno _ _ _ (by decide))).up (fun g hg => .inl hg), own_keptG x2.it hk (fun g _ _ => hno _ _ _ (by decide)), fun g hg => .inl (x.gi g hg), own_keptG (o.mono (Nat.zero_le _)) hk (fun g _ _ => hno _ _ _ (by decide)), .inr ?_⟩, (k.nilG : Kept (TG G) w w2).trans (hk.mono (fun q _ e => by rw [e.1]; exact x.gb))⟩
  exact (World.ownsRow.lt o g rfl).1
theorem vb_facts {ks : List Bd} (h : validB ks = true) : SrtB ks ∧ 0 < ks.length ∧ FitB ks := by
  obtain ⟨h1, h2⟩ := valid_sh.1 h
  refine ⟨h1.srt, h1.pos, fun p hp => ?_⟩
  have := h2 p hp
  unfold bdOk at this
  simp only [Bool.and_eq_true, decide_eq_true_eq] at this
  unfold maxLen
  omega
theorem HoX.bounds {G : Nat → Prop} {w : World} {b rb : Nat} {id : Int} {ao : Nat → Option Addr} {cs : Nat → Nat} {ai : Option Addr} {ci gk ck : Nat} {h : Hd} (x : HoX G w b rb id ao cs ai ci gk ck h) (hf : FitB h.kb) : BdRow w.heap.size w (some ⟨gk, 0, none⟩) h.kb := x.kb.row hf
theorem setIs_len : ∀ (l ps : List Pr), (setIs l ps).length ≤ ps.length + l.length
  | [], ps => Nat.le_refl _
  | x :: t, ps => by
    have h1 := setIs_len t (setI x ps)
    have h2 := setI_len x ps
    rw [List.length_cons]
    show (setIs t (setI x ps)).length ≤ _
    omega
theorem setIs_next {l ps : List Pr} {k : Nat} (hk : k < l.length) : setIs (l.take (k + 1)) ps = setI l[k] (setIs (l.take k) ps) := by
  unfold setIs
  rw [List.take_succ_eq_append_getElem hk, List.foldl_append]
  rfl
theorem own_ltI {B c : Nat} {w : World} {ao : Option Addr} {l : List Pr} (h : OwnIt B w ao c l) {g : Nat} (hg : (Value.slice ao l.length c).ownBlock = some g) : B ≤ g ∧ g < w.heap.size := World.ownsRow.lt h g hg
set_option maxRecDepth 100000 in
set_option maxHeartbeats 4000000 in
theorem take_any (K : List (List UInt8)) (M : Nat) (G : Nat → Prop) (b : Nat) (id : Int) (h : Hd) (body : List UInt8) (w : World) (x : HoM G w b id h) (ok : OkH K M h) (hb : GoodB K body) (hKM : K.length ≤ M) (hM : M ≤ 1900000) :
    Calls Try.prog 56 #[.pointer (some ⟨b, 0, none⟩), .string (bs body)] w fun e w' => e = .returned (.tuple #[]) ∧ HoM (GN G w) w' b id (takeHd id body h) ∧ Kept (TG G) w w' := by
  obtain ⟨fr, up, l, rfl, hf, hu, _, hs, hl⟩ := hb
  obtain ⟨rb, ao, cs, ai, ci, gk, ck, x⟩ := x
  have hTK : takeHd id (packB fr up l) h = ⟨h.os, setIs l h.it, setB h.kb fr up id⟩ := by unfold takeHd; rw [unp_pack hf hu (fun y hy => (hl y hy).1)]
  have hll : l.length ≤ M := Nat.le_trans (srt_len hs (fun y hy => (hl y hy).1)) hKM
  have hil : h.it.length ≤ M := Nat.le_trans ok.len hKM
  have UP := unpack_any K fr up l w hf hu hl (by omega)
  obtain ⟨v1, v2, v3⟩ := vb_facts ok.kv
  have hkl := ok.kl
  have HX : Hid (HoX (fun g => G g ∧ g < w.heap.size) w b rb id ao cs ai ci gk ck h) := x.lt
  have HOK : Hid (OkH K M h) := ok
  have HLL : Hid (l.length ≤ M ∧ h.it.length ≤ M) := ⟨hll, hil⟩
  obtain ⟨G0, HG0⟩ : ∃ G0 : Nat → Prop, Hid (G0 = fun g => G g ∧ g < w.heap.size) := ⟨_, rfl⟩
  rw [← HG0.out] at HX
  have HGG : Hid (∀ g, G0 g → G g ∧ g < w.heap.size) := fun g hg => by rw [HG0.out] at hg; exact hg
  obtain ⟨ks, HKS⟩ : ∃ ks, Hid (ks = setB h.kb fr up id) := ⟨_, rfl⟩
  obtain ⟨rk, HRK⟩ : ∃ rk : Hd, Hid (rk = { h with kb := ks }) := ⟨_, rfl⟩
  have HRE : Hid (⟨h.os, setIs l h.it, ks⟩ = ({ rk with it := setIs l rk.it } : Hd)) := by show _ = _; rw [HRK.out]
  rw [hTK, ← HKS.out, HRE.out]
  clear hTK hs hl ok x HG0
  go_enter Try.func56, Try.ntmps56
  go_wp2_with fail
  go_fit UP
  rintro e w1 ⟨a, c, rfl, o1, k1⟩
  have HO1 : Hid (OwnIt w.heap.size w1 a c l) := o1
  have HK1 : Hid (Kept Nil w w1) := k1
  have HX1 : Hid (HoX G0 w1 b rb id ao cs ai ci gk ck h) := HX.out.kept k1
  clear UP o1 k1
  go_upto_region 2 with fail
  have KD : Hid (Kept Nil w1 w1.drew) := (Kept.refl _ _).drew
  have HXD : Hid (HoX G0 w1.drew b rb id ao cs ai ci gk ck h) := HX1.out.kept KD.out
  have ST := set_any w1.drew.heap.size ck ⟨gk, 0, none⟩ h.kb fr up id w1.drew (HXD.out.bounds v3) v1 v2 (by obtain ⟨_, _, _, _, _, h1, _⟩ := HX1.out.kb.block (by simp); exact h1) (by obtain ⟨_, _, _, _, _, _, h1, _⟩ := HX1.out.kb.block (by simp); exact h1) (by omega) (by unfold maxLen; omega) (by unfold maxLen; omega)
  obtain ⟨nk, HNK⟩ : ∃ nk, Hid (nk = h.kb.length) := ⟨_, rfl⟩
  rw [← HKS.out] at ST
  have hho := HX1.out.ho
  unfold HoAt at hho
  rw [← HNK.out] at ST hho
  have HHO : Hid (w1.heap[b]? = some (.cells #[.pointer (some ⟨rb, 0, none⟩), .int .i64 id, .slice ai h.it.length ci, .slice (some ⟨gk, 0, none⟩) nk ck] 114 (0, 0))) := hho
  have c1 : w1.cell? ⟨b, 1, none⟩ = some (.int .i64 id) := blk_at HHO.out 1 rfl
  have c3 : w1.cell? ⟨b, 3, none⟩ = some (.slice (some ⟨gk, 0, none⟩) nk ck) := blk_at HHO.out 3 rfl
  have hbl : b < w1.heap.size := lt_of_block HHO.out
  clear hho v1 v2 v3
  go_cut [] (fun w5 => ∃ g' c', Hid (HoX (GN G0 w1) w5 b rb id ao cs ai ci g' c' { h with kb := ks }) ∧ Hid (Kept (TG G0) w1 w5))
  case first =>
    go_region_with (go_at_call 55; go_must (go_fit ST); rintro e w2 ⟨g2, d2, rfl, o2, k2⟩; have K2 : Hid (Kept Nil w1 w2) := (KD.out.trans k2); have HH2 := (HX1.out.keys K2.out (o2.mono (Nat.le_refl _))); have e3 : w2.cell? ⟨b, 3, none⟩ = some (.slice (some ⟨gk, 0, none⟩) nk ck) := cell_kept K2.out (fun _ x => x) c3; have f3 : w2.frozen? ⟨b, 3, none⟩ = false := blk_free (K2.out.block _ _ HHO.out (fun x => x)) _)
    all_goals
      go_wp2
      go_meet
      exact ⟨g2, d2, HH2.1, HH2.2⟩
  case rest =>
    rename World => w5
    obtain ⟨g5, c5, HX5, HK5⟩ := hcut
    have HO5 : Hid (OwnIt w.heap.size w5 a c l) := own_keptG HO1.out HK5.out (fun g cs hg e => by
      have h1 := (own_ltI HO1.out hg).1
      have h2 := (HGG.out g e).2
      omega)
    have HXk : Hid (HoX (GN G0 w1) w5 b rb id ao cs ai ci g5 c5 rk) := by rw [HRK.out]; exact HX5.out
    have HRS : Hid (Srt rk.it ∧ rk.it.length ≤ M) := by rw [HRK.out]; exact ⟨HOK.out.srt, HLL.out.2⟩
    apply_assumption
    go_wp2
    go_loopw [35] (fun u wr => ∃ k : Nat, ∃ ai ci, k ≤ l.length ∧ u = .int .i64 k ∧ Hid (HoX (GN G0 w1) wr b rb id ao cs ai ci g5 c5 { rk with it := setIs (l.take k) rk.it }) ∧ Hid (Kept (TG (GN G0 w1)) w1 wr)) (fun u _ => l.length - (intOf u).toNat)
    case atStart => exact ⟨0, ai, ci, Nat.zero_le _, rfl, HXk.out, HK5.out.upG (fun g hg => .inl hg)⟩
    case round =>
      obtain ⟨k, ai, ci, hk, rfl, HXr, HKr⟩ := hrel
      by_cases hlt : k < l.length
      · have hli : (k : Int) < (l.length : Int) := by omega
        have HOr : Hid (OwnIt w.heap.size wr a c l) := own_keptG HO1.out HKr.out (fun g cs hg e => by
          have h1 := own_ltI HO1.out hg
          rcases e with e | e
          · have h2 := (HGG.out g e).2; omega
          · omega)
        obtain ⟨g, eg, -, -, q0, q1, -, -⟩ := HOr.out.cells hlt
        subst eg
        obtain ⟨y, HY⟩ : ∃ y : Pr, Hid (y = l[k]) := ⟨l[k], (rfl : l[k] = l[k])⟩
        rw [← HY.out] at q0 q1
        obtain ⟨W, hW⟩ : ∃ W, W = wr.alloc (.cells #[.string (bs y.k), .string (bs y.v)] 117) := ⟨_, rfl⟩
        obtain ⟨A, HA⟩ : ∃ A, Hid (A = wr.heap.size) := ⟨_, rfl⟩
        have KW : Hid (Kept Nil wr W) := by rw [hW]; exact (Kept.refl _ _).alloc _
        have HAW : Hid (W.heap[A]? = some (.cells #[.string (bs y.k), .string (bs y.v)] 117 (0, 0))) := by rw [hW, HA.out]; exact blk_new _ _
        have SM := setM_any (GN G0 w1) b rb id ao cs ai ci g5 c5 { rk with it := setIs (l.take k) rk.it } y W (HXr.out.kept KW.out) (setIs_srt HRS.out.1) (by
          show (setIs (l.take k) rk.it).length < 4000000
          have h1 := setIs_len (l.take k) rk.it
          have h2 := HRS.out.2
          have h3 := HLL.out.1
          rw [List.length_take] at h1
          omega)
        have q0 : W.cell? ⟨A, 0, none⟩ = some (.string (bs y.k)) := blk_at HAW.out 0 rfl
        have q1 : W.cell? ⟨A, 1, none⟩ = some (.string (bs y.v)) := blk_at HAW.out 1 rfl
        have hwW : wr.heap.size ≤ W.heap.size := KW.out.size
        go_upto_region 6 with fail
        rw [← hW, ← HA.out]
        clear hW
        go_wp2_with fail
        go_fit SM
        rintro e w6 ⟨rfl, ⟨ai6, ci6, x6⟩, k6⟩
        have hup : ∀ g, GN (GN G0 w1) W g → GN G0 w1 g := fun g hg => gn_gn (Nat.le_trans HKr.out.size hwW) hg
        have HX6 : Hid (HoX (GN G0 w1) w6 b rb id ao cs ai6 ci6 g5 c5 { rk with it := setIs (l.take (k + 1)) rk.it }) := by rw [setIs_next hlt, ← HY.out]; exact x6.up hup
        have HK6 : Hid (Kept (TG (GN G0 w1)) w1 w6) := (HKr.out.trans KW.out.nilG).trans k6
        clear SM x6 k6 hup
        go_wp2
        go_roundw
        case rel => exact ⟨k + 1, ai6, ci6, by omega, by congr 1, HX6.out, HK6.out⟩
        case measure => simp [intOf]; omega
      · obtain rfl : k = l.length := by omega
        have HXe : Hid (HoX (GN G0 w1) wr b rb id ao cs ai ci g5 c5 { rk with it := setIs l rk.it }) := by have := HXr.out; rwa [List.take_length] at this
        have hsz := HK1.out.size
        have hup : ∀ g, GN G0 w1 g → GN G w g := fun g hg => by
          rcases hg with hg | hg
          · exact .inl (HGG.out g hg).1
          · exact .inr (by omega)
        go_wp2
        go_end0
        exact ⟨rfl, (HXe.out.up hup).m, Kept.next HK1.out.nilG (HKr.out.upG hup)⟩
end Go.Proofs.Ytpfgnhockfofhaa

/-
  Shards: a host applies a step on a key that it has.
-/
namespace Go.Proofs.Ytpfgnhockfofhaa
open Go.RowKit

def stC (s : Sp) : Array Value := #[.int .i64 s.kd, .int .i64 s.hs, .int .i64 s.ot, .int .i64 s.nn, .string (bs s.ky), .string (bs s.up), .string (bs s.vl)]
def rsC (k : Int) (v : List UInt8) : Array Value := #[.int .i64 k, .string (bs v), .int .i64 0, .slice none 0 0]
theorem Try.sizeRs : (Try.prog.info? 78).map (·.size) = some 4 := by kernel_rfl
theorem rsC_one (k : Int) (v : List UInt8) : (rsC k v).all (·.oneCell') = true := by
  unfold rsC
  simp only [List.all_toArray, List.all_cons, List.all_nil, Bool.and_true]
  rfl
/-- Behind the last call a cell of this call's own is written. -/
theorem HoM.done {G G0 : Nat → Prop} {w W w6 w9 : World} {A b : Nat} {id : Int} {h : Hd} (hG : ∀ g, G0 g → G g ∧ g < w.heap.size) (hK : Kept Nil w W) (hA : w.heap.size ≤ A) (hA2 : A < W.heap.size) (x : HoM (GN G0 W) w6 b id h) (k : Kept (TG (GN G0 W)) W w6) (k9 : Kept (One A) w6 w9) : HoM (GN G w) w9 b id h ∧ Kept (TG G) w w9 := by
  have hn : ¬ GN G0 W A := fun e => by
    rcases e with e | e
    · have := (hG A e).2; omega
    · omega
  refine ⟨(x.keptX k9 (fun q o hq e => hn (by have e : q = A := e; rw [← e]; exact hq))).up (fun g hg => ?_), ⟨(k9.os.trans k.os).trans hK.os, (k9.tape.trans k.tape).trans hK.tape, (k9.output.trans k.output).trans hK.output, Nat.le_trans (Nat.le_trans hK.size k.size) k9.size, fun q o ho hx => ?_⟩⟩
  · rcases hg with hg | hg
    · exact .inl (hG g hg).1
    · exact .inr (Nat.le_trans hK.size hg)
  · have hq := lt_of_block ho
    refine k9.block q o (k.block q o (hK.block q o ho (fun e => e)) (fun e => ?_)) (fun e => ?_)
    · rcases e with e | e
      · exact hx (hG q e).1
      · have := hK.size; omega
    · have e : q = A := e; omega
theorem HoM.done0 {G G0 : Nat → Prop} {w W w9 : World} {A b : Nat} {id : Int} {h : Hd} (hG : ∀ g, G0 g → G g ∧ g < w.heap.size) (hK : Kept Nil w W) (hA : w.heap.size ≤ A) (hA2 : A < W.heap.size) (x : HoM G0 W b id h) (k9 : Kept (One A) W w9) : HoM (GN G w) w9 b id h ∧ Kept (TG G) w w9 :=
  HoM.done hG hK hA hA2 (x.up (fun _ hg => .inl hg)) (Kept.refl _ _) k9
/-- A range of a host's items is deleted. -/
theorem HoX.deleted {G : Nat → Prop} {w w7 : World} {b rb : Nat} {id : Int} {ao : Nat → Option Addr} {cs : Nat → Nat} {ai : Option Addr} {ci gk ck n i j : Nat} {h : Hd} (x : HoX G w b rb id ao cs ai ci gk ck h) (_hs : Srt h.it) (hi : i ≤ j) (hj : j ≤ h.it.length) (o : OwnIt 0 w7 ai ci (delI i j h.it)) (hn : n = h.it.length - (j - i)) (g : w.grownBy w7 (Value.slice ai h.it.length ci).ownBlock) :
    SetPost 0 b rb id ai h.it.length ci (some ⟨gk, 0, none⟩) h.kb.length ck (delI i j h.it) w (w7.setCell ⟨b, 2, none⟩ (.slice ai n ci)) := by
  have hlen : (delI i j h.it).length = n := by rw [delI_len hi hj, hn]
  have hb := x.ho
  unfold HoAt at hb
  have hb7 : w7.heap[b]? = some (.cells #[.pointer (some ⟨rb, 0, none⟩), .int .i64 id, .slice ai h.it.length ci, .slice (some ⟨gk, 0, none⟩) h.kb.length ck] 114 (0, 0)) := by
    rw [g.block b (lt_of_block hb) (fun e => ownIt_ne x.it hb (by decide) e.symm)]
    exact hb
  have k7 : Kept (TI b (Value.slice ai h.it.length ci).ownBlock) w w7 := (Kept.refl _ _).grownT g (fun k hk o ho => by
    rcases x.it.2 with ⟨e1, _⟩ | ⟨g', _, cur, e1, _, hb2, _⟩
    · rw [e1] at hk; simp [Value.ownBlock] at hk
    · rw [e1] at hk
      have e2 : g' = k := by simpa [Value.ownBlock] using hk
      subst e2
      rw [hb2] at ho
      cases ho
      exact .inr ⟨by rw [e1]; rfl, _, rfl⟩)
  refine ⟨⟨ai, ci, ?_, own_setTy hb7 o (by decide), fun q hq => .inl ?_⟩, k7.setT (fun o ho => ?_) _ _⟩
  · rw [hlen]; exact blk_set hb7 2 _
  · cases ai with
    | none => simp [Value.ownBlock] at hq
    | some a => simpa [Value.ownBlock] using hq
  · rw [hb] at ho
    cases ho
    exact .inl ⟨rfl, _, rfl⟩
set_option maxRecDepth 100000 in
set_option maxHeartbeats 4000000 in
theorem apply_set (K : List (List UInt8)) (M : Nat) (G : Nat → Prop) (b : Nat) (id : Int) (h h' : Hd) (hs ot nn : Int) (ky up vl : List UInt8) (w : World) (x : HoM G w b id h) (ok : OkH K M h) (hKM : K.length ≤ M) (hM : M ≤ 1900000) (hh : h' = { h with it := setI ⟨ky, vl, 0⟩ h.it }) :
    Calls Try.prog 50 #[.pointer (some ⟨b, 0, none⟩), .agg #[.int .i64 1, .int .i64 hs, .int .i64 ot, .int .i64 nn, .string (bs ky), .string (bs up), .string (bs vl)]] w fun e w' => e = .returned (.agg (rsC 1 [])) ∧ HoM (GN G w) w' b id h' ∧ Kept (TG G) w w' := by
  obtain ⟨rb, ao, cs, ai, ci, gk, ck, x⟩ := x
  have hil : h.it.length ≤ M := Nat.le_trans ok.len hKM
  have HS : Hid (Srt h.it) := ok.srt
  have HX : Hid (HoX (fun g => G g ∧ g < w.heap.size) w b rb id ao cs ai ci gk ck h) := x.lt
  obtain ⟨G0, HG0⟩ : ∃ G0 : Nat → Prop, Hid (G0 = fun g => G g ∧ g < w.heap.size) := ⟨_, rfl⟩
  rw [← HG0.out] at HX
  have HGG : Hid (∀ g, G0 g → G g ∧ g < w.heap.size) := fun g hg => by rw [HG0.out] at hg; exact hg
  obtain ⟨W, hW⟩ : ∃ W, W = (w.alloc (.cells #[.int .i64 1, .int .i64 hs, .int .i64 ot, .int .i64 nn, .string (bs ky), .string (bs up), .string (bs vl)] 74)).alloc (.cells #[.int .i64 0, .string ⟨#[]⟩, .int .i64 0, .slice none 0 0] 78) := ⟨_, rfl⟩
  obtain ⟨A, HA⟩ : ∃ A : Nat, Hid (A = w.heap.size) := ⟨_, rfl⟩
  obtain ⟨R, HR⟩ : ∃ R : Nat, Hid (R = w.heap.size + 1) := ⟨_, rfl⟩
  have KW : Hid (Kept Nil w W) := by rw [hW]; exact ((Kept.refl _ _).alloc _).alloc _
  have HAW : Hid (W.heap[A]? = some (.cells #[.int .i64 1, .int .i64 hs, .int .i64 ot, .int .i64 nn, .string (bs ky), .string (bs up), .string (bs vl)] 74 (0, 0))) := by rw [hW, HA.out]; exact blk_past (blk_new _ _) _
  have HRW : Hid (W.heap[R]? = some (.cells #[.int .i64 0, .string ⟨#[]⟩, .int .i64 0, .slice none 0 0] 78 (0, 0))) := by rw [hW, HR.out]; exact blk_new1 w _ _
  have HRB : Hid (w.heap.size ≤ R ∧ R < W.heap.size) := ⟨by rw [HR.out]; omega, lt_of_block HRW.out⟩
  have HXW : Hid (HoX G0 W b rb id ao cs ai ci gk ck h) := HX.out.kept KW.out
  have p0 : W.cell? ⟨A, 0, none⟩ = some (.int .i64 1) := blk_at HAW.out 0 rfl
  have p4 : W.cell? ⟨A, 4, none⟩ = some (.string (bs ky)) := blk_at HAW.out 4 rfl
  have p6 : W.cell? ⟨A, 6, none⟩ = some (.string (bs vl)) := blk_at HAW.out 6 rfl
  clear x ok HG0
  have SM := setM_any G0 b rb id ao cs ai ci gk ck h ⟨ky, vl, 0⟩ W HXW.out HS.out (by omega)
  rw [← hh] at SM
  clear hh
  go_enter Try.func50, Try.ntmps50
  go_upto_region 1 with fail
  rw [← hW, ← HR.out, ← HA.out]
  clear hW
  go_wp2_with fail
  go_fit SM
  rintro e w6 ⟨rfl, ⟨ai6, ci6, x6⟩, k6⟩
  have HX6 : Hid (HoM (GN G0 W) w6 b id h') := x6.m
  have HK6 : Hid (Kept (TG G0) W w6) := k6
  have HR6 : Hid (w6.heap[R]? = some (.cells #[.int .i64 0, .string ⟨#[]⟩, .int .i64 0, .slice none 0 0] 78 (0, 0))) := k6.block _ _ HRW.out (fun e => by have := (HGG.out R e).2; have := HRB.out.1; omega)
  clear SM x6 k6 p0 p4 p6
  go_wp2_with (first | ((with_reducible refine atStore 78 ?_); go_must (refine wpList_storeW rfl _ _ _ rfl _ (rsC 1 []) _ _ rfl rfl HR6.out rfl Try.sizeRs rfl (rsC_one _ _) ?_); intro w9 hb9 hk9 hs9))
  refine bodyPost_ret (results_cellW rfl rfl hb9 Try.underlying78 rfl Try.sizeRs rfl) rfl ⟨rfl, ?_⟩
  exact HoM.done HGG.out KW.out HRB.out.1 HRB.out.2 HX6.out (HK6.out.upG (fun g hg => .inl hg)) hk9
set_option maxRecDepth 100000 in
set_option maxHeartbeats 4000000 in
theorem apply_none (K : List (List UInt8)) (M : Nat) (G : Nat → Prop) (b : Nat) (id : Int) (h : Hd) (kd hs ot nn : Int) (ky up vl : List UInt8) (w : World) (x : HoM G w b id h) (ok : OkH K M h) (hKM : K.length ≤ M) (hM : M ≤ 1900000) (hk : ¬ kd = 1) (ht : isThere ky h.it = false) :
    Calls Try.prog 50 #[.pointer (some ⟨b, 0, none⟩), .agg #[.int .i64 kd, .int .i64 hs, .int .i64 ot, .int .i64 nn, .string (bs ky), .string (bs up), .string (bs vl)]] w fun e w' => e = .returned (.agg (rsC 2 [])) ∧ HoM (GN G w) w' b id h ∧ Kept (TG G) w w' := by
  obtain ⟨rb, ao, cs, ai, ci, gk, ck, x⟩ := x
  have hil : h.it.length ≤ M := Nat.le_trans ok.len hKM
  have HS : Hid (Srt h.it) := ok.srt
  have HX : Hid (HoX (fun g => G g ∧ g < w.heap.size) w b rb id ao cs ai ci gk ck h) := x.lt
  obtain ⟨G0, HG0⟩ : ∃ G0 : Nat → Prop, Hid (G0 = fun g => G g ∧ g < w.heap.size) := ⟨_, rfl⟩
  rw [← HG0.out] at HX
  have HGG : Hid (∀ g, G0 g → G g ∧ g < w.heap.size) := fun g hg => by rw [HG0.out] at hg; exact hg
  obtain ⟨W, hW⟩ : ∃ W, W = (w.alloc (.cells #[.int .i64 kd, .int .i64 hs, .int .i64 ot, .int .i64 nn, .string (bs ky), .string (bs up), .string (bs vl)] 74)).alloc (.cells #[.int .i64 0, .string ⟨#[]⟩, .int .i64 0, .slice none 0 0] 78) := ⟨_, rfl⟩
  obtain ⟨A, HA⟩ : ∃ A : Nat, Hid (A = w.heap.size) := ⟨_, rfl⟩
  obtain ⟨R, HR⟩ : ∃ R : Nat, Hid (R = w.heap.size + 1) := ⟨_, rfl⟩
  have KW : Hid (Kept Nil w W) := by rw [hW]; exact ((Kept.refl _ _).alloc _).alloc _
  have HAW : Hid (W.heap[A]? = some (.cells #[.int .i64 kd, .int .i64 hs, .int .i64 ot, .int .i64 nn, .string (bs ky), .string (bs up), .string (bs vl)] 74 (0, 0))) := by rw [hW, HA.out]; exact blk_past (blk_new _ _) _
  have HRW : Hid (W.heap[R]? = some (.cells #[.int .i64 0, .string ⟨#[]⟩, .int .i64 0, .slice none 0 0] 78 (0, 0))) := by rw [hW, HR.out]; exact blk_new1 w _ _
  have HRB : Hid (w.heap.size ≤ R ∧ R < W.heap.size) := ⟨by rw [HR.out]; omega, lt_of_block HRW.out⟩
  have HXW : Hid (HoX G0 W b rb id ao cs ai ci gk ck h) := HX.out.kept KW.out
  have p0 : W.cell? ⟨A, 0, none⟩ = some (.int .i64 kd) := blk_at HAW.out 0 rfl
  have p4 : W.cell? ⟨A, 4, none⟩ = some (.string (bs ky)) := blk_at HAW.out 4 rfl
  have p6 : W.cell? ⟨A, 6, none⟩ = some (.string (bs vl)) := blk_at HAW.out 6 rfl
  clear x ok HG0
  have FI := findH_any 0 b rb ci h.kb.length ck id ai (some ⟨gk, 0, none⟩) h.it ky W HXW.out.it HS.out (by omega) HXW.out.ho
  rw [ht] at FI
  generalize lowP ky h.it = lo at *
  go_enter Try.func50, Try.ntmps50
  go_upto_region 1 with fail
  rw [← hW, ← HR.out, ← HA.out]
  clear hW
  go_wp2_with fail
  go_fit FI
  rintro e w6 ⟨rfl, k6⟩
  have HX6 : Hid (HoX G0 w6 b rb id ao cs ai ci gk ck h) := HXW.out.kept k6
  have HK6 : Hid (Kept Nil w w6) := KW.out.trans k6
  have HR6 : Hid (w6.heap[R]? = some (.cells #[.int .i64 0, .string ⟨#[]⟩, .int .i64 0, .slice none 0 0] 78 (0, 0))) := k6.block _ _ HRW.out (fun e => e)
  have HRB6 : Hid (w.heap.size ≤ R ∧ R < w6.heap.size) := ⟨HRB.out.1, lt_of_block HR6.out⟩
  have p06 : w6.cell? ⟨A, 0, none⟩ = some (.int .i64 kd) := cell_kept k6 (fun _ x => x) p0
  clear FI k6 p4 p6 p0
  go_wp2_with (first | ((with_reducible refine atStore 78 ?_); go_must (refine wpList_storeW rfl _ _ _ rfl _ (rsC 2 []) _ _ rfl rfl HR6.out rfl Try.sizeRs rfl (rsC_one _ _) ?_); intro w9 hb9 hk9 hs9))
  refine bodyPost_ret (results_cellW rfl rfl hb9 Try.underlying78 rfl Try.sizeRs rfl) rfl ⟨rfl, ?_⟩
  exact HoM.done0 HGG.out HK6.out HRB6.out.1 HRB6.out.2 HX6.out.m hk9
set_option maxRecDepth 100000 in
set_option maxHeartbeats 4000000 in
theorem apply_get (K : List (List UInt8)) (M : Nat) (G : Nat → Prop) (b : Nat) (id : Int) (h : Hd) (hs ot nn : Int) (ky up vl : List UInt8) (w : World) (x : HoM G w b id h) (ok : OkH K M h) (hKM : K.length ≤ M) (hM : M ≤ 1900000) (y : Pr) (lo : Nat) (hlo : lowP ky h.it = lo) (ht : isThere ky h.it = true) (hy : h.it[lo]? = some y) :
    Calls Try.prog 50 #[.pointer (some ⟨b, 0, none⟩), .agg #[.int .i64 2, .int .i64 hs, .int .i64 ot, .int .i64 nn, .string (bs ky), .string (bs up), .string (bs vl)]] w fun e w' => e = .returned (.agg (rsC 1 y.v)) ∧ HoM (GN G w) w' b id h ∧ Kept (TG G) w w' := by
  obtain ⟨rb, ao, cs, ai, ci, gk, ck, x⟩ := x
  have hil : h.it.length ≤ M := Nat.le_trans ok.len hKM
  have HS : Hid (Srt h.it) := ok.srt
  have HX : Hid (HoX (fun g => G g ∧ g < w.heap.size) w b rb id ao cs ai ci gk ck h) := x.lt
  obtain ⟨G0, HG0⟩ : ∃ G0 : Nat → Prop, Hid (G0 = fun g => G g ∧ g < w.heap.size) := ⟨_, rfl⟩
  rw [← HG0.out] at HX
  have HGG : Hid (∀ g, G0 g → G g ∧ g < w.heap.size) := fun g hg => by rw [HG0.out] at hg; exact hg
  obtain ⟨W, hW⟩ : ∃ W, W = (w.alloc (.cells #[.int .i64 2, .int .i64 hs, .int .i64 ot, .int .i64 nn, .string (bs ky), .string (bs up), .string (bs vl)] 74)).alloc (.cells #[.int .i64 0, .string ⟨#[]⟩, .int .i64 0, .slice none 0 0] 78) := ⟨_, rfl⟩
  obtain ⟨A, HA⟩ : ∃ A : Nat, Hid (A = w.heap.size) := ⟨_, rfl⟩
  obtain ⟨R, HR⟩ : ∃ R : Nat, Hid (R = w.heap.size + 1) := ⟨_, rfl⟩
  have KW : Hid (Kept Nil w W) := by rw [hW]; exact ((Kept.refl _ _).alloc _).alloc _
  have HAW : Hid (W.heap[A]? = some (.cells #[.int .i64 2, .int .i64 hs, .int .i64 ot, .int .i64 nn, .string (bs ky), .string (bs up), .string (bs vl)] 74 (0, 0))) := by rw [hW, HA.out]; exact blk_past (blk_new _ _) _
  have HRW : Hid (W.heap[R]? = some (.cells #[.int .i64 0, .string ⟨#[]⟩, .int .i64 0, .slice none 0 0] 78 (0, 0))) := by rw [hW, HR.out]; exact blk_new1 w _ _
  have HRB : Hid (w.heap.size ≤ R ∧ R < W.heap.size) := ⟨by rw [HR.out]; omega, lt_of_block HRW.out⟩
  have HXW : Hid (HoX G0 W b rb id ao cs ai ci gk ck h) := HX.out.kept KW.out
  have p0 : W.cell? ⟨A, 0, none⟩ = some (.int .i64 2) := blk_at HAW.out 0 rfl
  have p4 : W.cell? ⟨A, 4, none⟩ = some (.string (bs ky)) := blk_at HAW.out 4 rfl
  have p6 : W.cell? ⟨A, 6, none⟩ = some (.string (bs vl)) := blk_at HAW.out 6 rfl
  clear x ok HG0
  have FI := findH_any 0 b rb ci h.kb.length ck id ai (some ⟨gk, 0, none⟩) h.it ky W HXW.out.it HS.out (by omega) HXW.out.ho
  rw [ht, hlo] at FI
  have HT : Hid (isThere ky h.it = true) := ht
  obtain ⟨hll, hye⟩ := List.getElem?_eq_some_iff.1 hy
  have HY : Hid (h.it[lo] = y) := hye
  have hli : (lo : Int) < (h.it.length : Int) := by omega
  clear hlo ht hy hye
  go_enter Try.func50, Try.ntmps50
  go_upto_region 1 with fail
  rw [← hW, ← HR.out, ← HA.out]
  clear hW
  go_wp2_with fail
  go_fit FI
  rintro e w6 ⟨rfl, k6⟩
  have HX6 : Hid (HoX G0 w6 b rb id ao cs ai ci gk ck h) := HXW.out.kept k6
  have HK6 : Hid (Kept Nil w w6) := KW.out.trans k6
  have HR6 : Hid (w6.heap[R]? = some (.cells #[.int .i64 0, .string ⟨#[]⟩, .int .i64 0, .slice none 0 0] 78 (0, 0))) := k6.block _ _ HRW.out (fun e => e)
  have HRB6 : Hid (w.heap.size ≤ R ∧ R < w6.heap.size) := ⟨HRB.out.1, lt_of_block HR6.out⟩
  have p06 : w6.cell? ⟨A, 0, none⟩ = some (.int .i64 2) := cell_kept k6 (fun _ x => x) p0
  clear FI k6 p4 p6 p0
  obtain ⟨g, eg, -, -, c0, c1, -, -⟩ := HX6.out.it.cells hll
  subst eg
  rw [HY.out] at c0 c1
  have hho := HX6.out.ho
  unfold HoAt at hho
  have d2 : w6.cell? ⟨b, 2, none⟩ = some (.slice (some ⟨g, 0, none⟩) h.it.length ci) := blk_at hho 2 rfl
  clear hho
  go_wp2_with (first | ((with_reducible refine atStore 78 ?_); go_must (refine wpList_storeW rfl _ _ _ rfl _ (rsC 1 y.v) _ _ rfl rfl HR6.out rfl Try.sizeRs rfl (rsC_one _ _) ?_); intro w9 hb9 hk9 hs9))
  refine bodyPost_ret (results_cellW rfl rfl hb9 Try.underlying78 rfl Try.sizeRs rfl) rfl ⟨rfl, ?_⟩
  exact HoM.done0 HGG.out HK6.out HRB6.out.1 HRB6.out.2 HX6.out.m hk9
set_option maxRecDepth 100000 in
set_option maxHeartbeats 4000000 in
theorem apply_del (K : List (List UInt8)) (M : Nat) (G : Nat → Prop) (b : Nat) (id : Int) (h h' : Hd) (kd hs ot nn : Int) (ky up vl : List UInt8) (w : World) (x : HoM G w b id h) (ok : OkH K M h) (hKM : K.length ≤ M) (hM : M ≤ 1900000) (lo : Nat) (hk : ¬ kd = 1) (hk2 : ¬ kd = 2) (hlo : lowP ky h.it = lo) (hll : lo < h.it.length) (ht : isThere ky h.it = true) (hh : h' = { h with it := delI lo (lo + 1) h.it }) :
    Calls Try.prog 50 #[.pointer (some ⟨b, 0, none⟩), .agg #[.int .i64 kd, .int .i64 hs, .int .i64 ot, .int .i64 nn, .string (bs ky), .string (bs up), .string (bs vl)]] w fun e w' => e = .returned (.agg (rsC 1 [])) ∧ HoM (GN G w) w' b id h' ∧ Kept (TG G) w w' := by
  obtain ⟨rb, ao, cs, ai, ci, gk, ck, x⟩ := x
  have hil : h.it.length ≤ M := Nat.le_trans ok.len hKM
  have HS : Hid (Srt h.it) := ok.srt
  have HX : Hid (HoX (fun g => G g ∧ g < w.heap.size) w b rb id ao cs ai ci gk ck h) := x.lt
  obtain ⟨G0, HG0⟩ : ∃ G0 : Nat → Prop, Hid (G0 = fun g => G g ∧ g < w.heap.size) := ⟨_, rfl⟩
  rw [← HG0.out] at HX
  have HGG : Hid (∀ g, G0 g → G g ∧ g < w.heap.size) := fun g hg => by rw [HG0.out] at hg; exact hg
  obtain ⟨W, hW⟩ : ∃ W, W = (w.alloc (.cells #[.int .i64 kd, .int .i64 hs, .int .i64 ot, .int .i64 nn, .string (bs ky), .string (bs up), .string (bs vl)] 74)).alloc (.cells #[.int .i64 0, .string ⟨#[]⟩, .int .i64 0, .slice none 0 0] 78) := ⟨_, rfl⟩
  obtain ⟨A, HA⟩ : ∃ A : Nat, Hid (A = w.heap.size) := ⟨_, rfl⟩
  obtain ⟨R, HR⟩ : ∃ R : Nat, Hid (R = w.heap.size + 1) := ⟨_, rfl⟩
  have KW : Hid (Kept Nil w W) := by rw [hW]; exact ((Kept.refl _ _).alloc _).alloc _
  have HAW : Hid (W.heap[A]? = some (.cells #[.int .i64 kd, .int .i64 hs, .int .i64 ot, .int .i64 nn, .string (bs ky), .string (bs up), .string (bs vl)] 74 (0, 0))) := by rw [hW, HA.out]; exact blk_past (blk_new _ _) _
  have HRW : Hid (W.heap[R]? = some (.cells #[.int .i64 0, .string ⟨#[]⟩, .int .i64 0, .slice none 0 0] 78 (0, 0))) := by rw [hW, HR.out]; exact blk_new1 w _ _
  have HRB : Hid (w.heap.size ≤ R ∧ R < W.heap.size) := ⟨by rw [HR.out]; omega, lt_of_block HRW.out⟩
  have HXW : Hid (HoX G0 W b rb id ao cs ai ci gk ck h) := HX.out.kept KW.out
  have p0 : W.cell? ⟨A, 0, none⟩ = some (.int .i64 kd) := blk_at HAW.out 0 rfl
  have p4 : W.cell? ⟨A, 4, none⟩ = some (.string (bs ky)) := blk_at HAW.out 4 rfl
  have p6 : W.cell? ⟨A, 6, none⟩ = some (.string (bs vl)) := blk_at HAW.out 6 rfl
  clear x ok HG0
  have FI := findH_any 0 b rb ci h.kb.length ck id ai (some ⟨gk, 0, none⟩) h.it ky W HXW.out.it HS.out (by omega) HXW.out.ho
  rw [ht, hlo] at FI
  have HH : Hid (h' = { h with it := delI lo (lo + 1) h.it }) := hh
  have hw1 : IntKind.i64.wrap ((lo : Int) + 1) = ((lo + 1 : Nat) : Int) := by rw [IntKind.wrap_i64]; omega
  clear hlo ht hh
  go_enter Try.func50, Try.ntmps50
  go_upto_region 1 with fail
  rw [← hW, ← HR.out, ← HA.out]
  clear hW
  go_wp2_with fail
  go_fit FI
  rintro e w6 ⟨rfl, k6⟩
  have HX6 : Hid (HoX G0 w6 b rb id ao cs ai ci gk ck h) := HXW.out.kept k6
  have HK6 : Hid (Kept Nil w w6) := KW.out.trans k6
  have HR6 : Hid (w6.heap[R]? = some (.cells #[.int .i64 0, .string ⟨#[]⟩, .int .i64 0, .slice none 0 0] 78 (0, 0))) := k6.block _ _ HRW.out (fun e => e)
  have HRB6 : Hid (w.heap.size ≤ R ∧ R < w6.heap.size) := ⟨HRB.out.1, lt_of_block HR6.out⟩
  have p06 : w6.cell? ⟨A, 0, none⟩ = some (.int .i64 kd) := cell_kept k6 (fun _ x => x) p0
  clear FI k6 p4 p6 p0
  have HHO : Hid (w6.heap[b]? = some (.cells #[.pointer (some ⟨rb, 0, none⟩), .int .i64 id, .slice ai h.it.length ci, .slice (some ⟨gk, 0, none⟩) h.kb.length ck] 114 (0, 0))) := HX6.out.ho
  have d2 : w6.cell? ⟨b, 2, none⟩ = some (.slice ai h.it.length ci) := blk_at HHO.out 2 rfl
  have DE := deleteI_any 0 ci lo (lo + 1) ai h.it w6 HX6.out.it (by omega) (by omega) (by omega)
  rw [show h.it.length - (lo + 1 - lo) = h.it.length - 1 by omega] at DE
  go_wp2_with fail
  go_fit DE
  rintro e w7 ⟨rfl, o7, g7⟩
  have SP : Hid (SetPost 0 b rb id ai h.it.length ci (some ⟨gk, 0, none⟩) h.kb.length ck (delI lo (lo + 1) h.it) w6 (w7.setCell ⟨b, 2, none⟩ (.slice ai (h.it.length - 1) ci))) := HX6.out.deleted HS.out (Nat.le_succ lo) (by omega) o7 (by rw [show h.it.length - (lo + 1 - lo) = h.it.length - 1 by omega]) g7
  have HB7 : Hid (w7.heap[b]? = some (.cells #[.pointer (some ⟨rb, 0, none⟩), .int .i64 id, .slice ai h.it.length ci, .slice (some ⟨gk, 0, none⟩) h.kb.length ck] 114 (0, 0))) := by
    rw [show w7.heap[b]? = w6.heap[b]? from g7.block b (lt_of_block HHO.out) (fun e => ownIt_ne HX6.out.it HHO.out (by decide) e.symm)]
    exact HHO.out
  have e2 : w7.cell? ⟨b, 2, none⟩ = some (.slice ai h.it.length ci) := blk_at HB7.out 2 rfl
  have f2 : w7.frozen? ⟨b, 2, none⟩ = false := blk_free HB7.out _
  obtain ⟨V, hV⟩ : ∃ V, V = w7.setCell ⟨b, 2, none⟩ (.slice ai (h.it.length - 1) ci) := ⟨_, rfl⟩
  rw [← hV] at SP
  obtain ⟨⟨ai8, ci8, x8⟩, k8⟩ := HX6.out.items SP.out
  rw [← HH.out] at x8
  have HX8 : Hid (HoM (GN G0 w6) V b id h') := x8.m
  have HK8 : Hid (Kept (TG G0) w6 V) := k8
  have HR8 : Hid (V.heap[R]? = some (.cells #[.int .i64 0, .string ⟨#[]⟩, .int .i64 0, .slice none 0 0] 78 (0, 0))) := k8.block _ _ HR6.out (fun e => by have := (HGG.out R e).2; have := HRB.out.1; omega)
  clear DE x8 k8 o7 g7
  go_upto_region 10 with fail
  rw [← hV]
  clear hV
  go_wp2_with (first | ((with_reducible refine atStore 78 ?_); go_must (refine wpList_storeW rfl _ _ _ rfl _ (rsC 1 []) _ _ rfl rfl HR8.out rfl Try.sizeRs rfl (rsC_one _ _) ?_); intro w9 hb9 hk9 hs9))
  refine bodyPost_ret (results_cellW rfl rfl hb9 Try.underlying78 rfl Try.sizeRs rfl) rfl ⟨rfl, ?_⟩
  exact HoM.done HGG.out HK6.out HRB6.out.1 HRB6.out.2 HX8.out (HK8.out.upG (fun g hg => .inl hg)) hk9
theorem apply_any (K : List (List UInt8)) (M : Nat) (G : Nat → Prop) (b : Nat) (id : Int) (h : Hd) (s : Sp) (w : World) (x : HoM G w b id h) (ok : OkH K M h) (hKM : K.length ≤ M) (hM : M ≤ 1900000) :
    Calls Try.prog 50 #[.pointer (some ⟨b, 0, none⟩), .agg (stC s)] w fun e w' => e = .returned (.agg (rsC (applyH s h).1 (applyH s h).2.1)) ∧ HoM (GN G w) w' b id (applyH s h).2.2 ∧ Kept (TG G) w w' := by
  obtain ⟨kd, hs, ot, nn, ky, up, vl⟩ := s
  unfold applyH stC
  dsimp only
  by_cases h1 : kd = 1
  · subst h1
    exact apply_set K M G b id h _ hs ot nn ky up vl w x ok hKM hM rfl
  · rw [if_neg h1]
    cases ht : isThere ky h.it with
    | false =>
      rw [if_pos rfl]
      exact apply_none K M G b id h kd hs ot nn ky up vl w x ok hKM hM h1 ht
    | true =>
      have hl := thereI ht
      rw [if_neg (by decide)]
      by_cases h2 : kd = 2
      · subst h2
        rw [if_pos rfl, List.getElem?_eq_getElem hl]
        exact apply_get K M G b id h hs ot nn ky up vl w x ok hKM hM h.it[lowP ky h.it] _ rfl ht (List.getElem?_eq_getElem hl)
      · rw [if_neg h2]
        exact apply_del K M G b id h _ kd hs ot nn ky up vl w x ok hKM hM _ h1 h2 rfl hl ht rfl
end Go.Proofs.Ytpfgnhockfofhaa
