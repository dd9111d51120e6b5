/-
  The walk through the law of logs: it answers true, whatever the log, the entries and the numbers are.
-/
import Derived.Test.YtcbeonhohbgnmaaWLogE
import Derived.Test.YtcbeonhohbgnmaaWLogC
import Derived.Test.YtcbeonhohbgnmaaWLog5
namespace Go.Proofs.Ytcbeonhohbgnmaa
open Go.RowKit

theorem entsOk_facts : ∀ {es : List En} {ix tm : Int}, entsOk ix tm es = true → ∀ j, (hj : j < es.length) → es[j].ix = ix + j ∧ es[j].ok = true
  | [], _, _, _, j, hj => by simp at hj
  | e :: t, ix, tm, h, 0, hj => by
    simp only [entsOk, Bool.and_eq_true, decide_eq_true_eq] at h
    exact ⟨by simp [h.1.1.2], h.1.1.1⟩
  | e :: t, ix, tm, h, j + 1, hj => by
    simp only [entsOk, Bool.and_eq_true, decide_eq_true_eq] at h
    have := entsOk_facts h.2 j (by simpa using hj)
    simp only [List.getElem_cons_succ]
    exact ⟨by rw [this.1]; omega, this.2⟩
structure LogFacts (base bt : Int) (es : List En) : Prop where
  b : 0 ≤ base ∧ base ≤ 1099511627775
  len : (es.length : Int) ≤ 1099511627776
  ix : ∀ j, (hj : j < es.length) → es[j].ix = base + 1 + j
  num : ∀ e ∈ es, 0 ≤ e.ix ∧ e.ix ≤ 1099511627775
theorem logOk_facts {base bt : Int} {es : List En} (h : logOk base bt es = true) : LogFacts base bt es := by
  simp only [logOk, Bool.and_eq_true] at h
  obtain ⟨⟨⟨h1, _⟩, _⟩, h4⟩ := h
  have hf := entsOk_facts h4
  have hnum : ∀ j, (hj : j < es.length) → 1 ≤ es[j].ix ∧ es[j].ix ≤ 1099511627775 := fun j hj => by
    have := (hf j hj).2
    simp only [En.ok, isCnt, Bool.and_eq_true, decide_eq_true_eq] at this
    exact this.1.1
  refine ⟨by simpa [isNum] using h1, ?_, fun j hj => (hf j hj).1, fun e he => ?_⟩
  · by_cases hz : es.length = 0
    · omega
    · have h9 := hnum (es.length - 1) (by omega)
      have h8 := (hf (es.length - 1) (by omega)).1
      have h7 : 0 ≤ base := by
        simp only [isNum, Bool.and_eq_true, decide_eq_true_eq] at h1
        exact h1.1
      omega
  · obtain ⟨j, hj, rfl⟩ := List.getElem_of_mem he
    have := hnum j hj
    omega
theorem ext_known : ext 0 0 [] 0 0 [⟨1, 1, 0, []⟩] = ([⟨1, 1, 0, []⟩], 1, 1, 0) := rfl
theorem litRow (w : World) : EntRow (w.heap.size + 1) (w.alloc (.cells #[.int .i64 1, .int .i64 1, .int .i64 0, .string (bs [])] 48)) (some ⟨w.heap.size, 0, none⟩) [⟨1, 1, 0, []⟩] := by
  have hb := blk_new w (.cells #[.int .i64 1, .int .i64 1, .int .i64 0, .string (bs [])] 48)
  intro j hj
  have h0 : j = 0 := by simpa using hj
  subst h0
  exact ⟨_, rfl, Nat.lt_succ_self _, blk_at hb 0 rfl, blk_at hb 1 rfl, blk_at hb 2 rfl, blk_at hb 3 rfl, by simp⟩
theorem own_keptB {X : Nat → Obj → Prop} {w w' : World} {B size n : Nat} {e : TypeId} {v : Value} {xs : List Value} (h : w.ownsRow B e size v n xs) (hk : Kept X w w') (hX : ∀ k o, v.ownBlock = some k → ¬ X k o) : w'.ownsRow B e size v n xs := by
  refine ⟨h.1, h.2.imp id ?_⟩
  rintro ⟨g, cap, cur, rfl, a2, a3, a4⟩
  exact ⟨g, cap, cur, rfl, a2, hk.block _ _ a3 (hX g _ rfl), a4⟩
theorem own_ne_blk {w : World} {B size n b : Nat} {e t : TypeId} {v : Value} {xs : List Value} {cs : Array Value} {m : Nat × Nat} (h : w.ownsRow B e size v n xs) (hb : w.heap[b]? = some (.cells cs t m)) (ht : e ≠ t) : v.ownBlock ≠ some b := by
  intro hv
  rcases h.2 with ⟨rfl, _⟩ | ⟨g, cap, cur, rfl, _, a3, _⟩
  · simp [Value.ownBlock] at hv
  · simp only [Value.ownBlock, Option.some.injEq] at hv
    subst hv
    rw [a3] at hb
    simp only [Option.some.injEq, Obj.cells.injEq] at hb
    exact ht hb.2.1

theorem skip_in {base : Int} : ∀ {p t : Int} {ns : List En}, (∀ e ∈ (skip base p t ns).2.2, e ∈ ns) ∧ (skip base p t ns).2.2.length ≤ ns.length
  | p, t, [] => ⟨fun _ h => h, Nat.le_refl _⟩
  | p, t, e :: r => by
    rw [skip]
    split
    · have := @skip_in base e.ix e.tm r
      exact ⟨fun x hx => List.mem_cons_of_mem _ (this.1 x hx), Nat.le_succ_of_le this.2⟩
    · exact ⟨fun _ h => h, Nat.le_refl _⟩
theorem extAt_in {base bt p t : Int} {es ms : List En} : (∀ e ∈ (extAt base bt es p t ms).1, e ∈ es ∨ e ∈ ms) ∧ (extAt base bt es p t ms).1.length ≤ es.length + ms.length := by
  unfold extAt
  split
  · exact ⟨fun e h => .inl h, by simp⟩
  · split
    · split
      · refine ⟨fun e h => ?_, ?_⟩
        · rcases List.mem_append.mp h with h | h
          · exact .inl (List.mem_of_mem_take h)
          · exact .inr (List.mem_of_mem_drop h)
        · simp only [List.length_append, List.length_take, List.length_drop]; omega
      · exact ⟨fun e h => .inl h, by simp⟩
    · exact ⟨fun e h => .inl h, by simp⟩
theorem ext_in {base bt p t : Int} {es ns : List En} : (∀ e ∈ (ext base bt es p t ns).1, e ∈ es ∨ e ∈ ns) ∧ (ext base bt es p t ns).1.length ≤ es.length + ns.length := by
  have h1 := @extAt_in base bt (skip base p t ns).1 (skip base p t ns).2.1 es (skip base p t ns).2.2
  have h2 := @skip_in base p t ns
  exact ⟨fun e h => (h1.1 e h).imp id (h2.1 e), Nat.le_trans h1.2 (by have := h2.2; omega)⟩
theorem cmpL_in {base bt i : Int} {es : List En} : (∀ e ∈ (cmpL base bt es i).2.2, e ∈ es) ∧ (cmpL base bt es i).2.2.length ≤ es.length := by
  unfold cmpL
  split
  · exact ⟨fun e h => List.mem_of_mem_drop h, by simp⟩
  · exact ⟨fun e h => by simp at h, by simp⟩
theorem slL_in {base f m : Int} {es : List En} : (∀ e ∈ slL base es f m, e ∈ es) ∧ (slL base es f m).length ≤ es.length := by
  unfold slL
  split
  · exact ⟨fun e h => List.mem_of_mem_drop (List.mem_of_mem_take h), by simp only [List.length_take, List.length_drop]; omega⟩
  · exact ⟨fun e h => by simp at h, by simp⟩
theorem OwnX.addr {B c : Nat} {w : World} {ao : Option Addr} {es : List En} (h : OwnX B w ao c es) : ∃ g, ao = some ⟨g, 0, none⟩ ∧ es.length ≤ c := by
  obtain ⟨g, hg, _⟩ := own_cellE h (by simp)
  have := own_capE h
  rw [List.length_append] at this
  exact ⟨g, hg, by simp at this; omega⟩
theorem OwnX.no {B c : Nat} {w : World} {ao : Option Addr} {es : List En} (h : OwnX B w ao c es) : ao = none → es = [] ∧ c = 0 := fun e => by
  obtain ⟨g, hg, _⟩ := h.addr
  rw [e] at hg
  cases hg

set_option maxRecDepth 100000 in
set_option maxHeartbeats 16000000 in
theorem rlogExact_walk (B c d : Nat) (base bt prev term most : Int) (ao bo : Option Addr) (es ns : List En) (w : World) (h1 : EntRow B w ao es) (h2 : EntRow B w bo ns) (hl1 : (es.length : Int) ≤ 281474976710656) (hl2 : (ns.length : Int) ≤ 281474976710656) (hc : es.length ≤ c) (hd : ns.length ≤ d) :
    Calls Try.prog 14 #[.agg #[.int .i64 base, .int .i64 bt, .slice ao es.length c], .int .i64 prev, .int .i64 term, .slice bo ns.length d, .int .i64 most] w fun e w' => e = .returned (.bool true) ∧ Kept Nil w w' := by
  have HR : Hid (EntRow w.heap.size w ao es ∧ EntRow w.heap.size w bo ns) := ⟨h1.full, h2.full⟩
  have V := fun w' (hk : Kept Nil w w') => valid_log w.heap.size c base bt ao es w' (HR.out.1.nil hk) hl1
  have I := fun w' (hk : Kept Nil w w') => refIsLog_any w.heap.size c base bt ao es w' (HR.out.1.nil hk) hl1
  have J := fun w' (hk : Kept Nil w w') => refIsLog_any w.heap.size d prev term bo ns w' (HR.out.2.nil hk) hl2
  have KX := fun w' => extend_any (w'.heap.size + 1) 0 1 0 0 0 0 none (some ⟨w'.heap.size, 0, none⟩) [] [⟨1, 1, 0, []⟩] (w'.alloc (.cells #[.int .i64 1, .int .i64 1, .int .i64 0, .string (bs [])] 48)) (entRow_nil _ _ _) (litRow w') (fun _ => ⟨rfl, rfl⟩) some_no (by omega) (by simp) (by simp) (by simp) (by simp) (by omega) (by simp)
  rw [ext_known] at KX
  simp only [List.length_cons, List.length_nil] at KX
  obtain ⟨lo, hlo⟩ : ∃ lo, logOk base bt es = lo := ⟨_, rfl⟩
  obtain ⟨fo, hfo⟩ : ∃ fo, logOk prev term ns = fo := ⟨_, rfl⟩
  rw [hlo] at V I
  rw [hfo] at J
  have HLF : Hid (lo = true → LogFacts base bt es) := fun e => logOk_facts (hlo.trans e)
  have HFF : Hid (fo = true → LogFacts prev term ns) := fun e => logOk_facts (hfo.trans e)
  have HCD : Hid (es.length ≤ c ∧ ns.length ≤ d) := ⟨hc, hd⟩
  clear hlo hfo h1 h2
  have HL0 : Hid (_) := blk_new w (.cells #[.int .i64 base, .int .i64 bt, .slice ao es.length c] 108)
  go_enter Try.func14, Try.ntmps14
  go_upto_region 1 with fail
  go_cut [55] from 51 (fun r wx => r = .bool false ∧ Hid (Kept Nil w wx) ∧ Hid (wx.heap[w.heap.size]? = some (.cells #[.int .i64 base, .int .i64 bt, .slice ao es.length c] 108 (0, 0))))
  case first =>
    have hne : (lo != lo) = false := by simp
    go_region_with (first | (go_at_call 66; refine (V _ (by first | exact KI.out | exact ((Kept.refl _ _).alloc _).drew)).mono ?_; rintro e wv ⟨rfl, kv⟩; have KV : Hid (Kept Nil w wv) := (by first | exact KI.out.trans kv | exact (((Kept.refl _ _).alloc _).drew).trans kv); have BV : Hid (wv.heap[w.heap.size]? = some (.cells #[.int .i64 base, .int .i64 bt, .slice ao es.length c] 108 (0, 0))) := (by first | exact kv.block _ _ BI.out (fun x => x.elim) | exact kv.block _ _ HL0.out (fun x => x.elim)); obtain ⟨v0, v1, v2⟩ := lookB BV.out; clear kv) | (go_at_call 67; refine (I _ (by first | exact KV.out | exact ((Kept.refl _ _).alloc _).drew)).mono ?_; rintro e wi ⟨rfl, ki⟩; have KI : Hid (Kept Nil w wi) := (by first | exact KV.out.trans ki | exact (((Kept.refl _ _).alloc _).drew).trans ki); have BI : Hid (wi.heap[w.heap.size]? = some (.cells #[.int .i64 base, .int .i64 bt, .slice ao es.length c] 108 (0, 0))) := (by first | exact ki.block _ _ BV.out (fun x => x.elim) | exact ki.block _ _ HL0.out (fun x => x.elim)); obtain ⟨u0, u1, u2⟩ := lookB BI.out; clear ki))
    all_goals
      go_wp2_with fail
      go_meet
      first | exact ⟨rfl, KI.out, BI.out⟩ | exact ⟨rfl, KV.out, BV.out⟩
  case rest =>
    obtain ⟨rfl, K0, HL0⟩ := hcut
    rename World => w0
    clear V
    go_wp2_with fail
    refine (KX _).mono ?_
    rintro e w1 ⟨ko, kc, rfl, ok1, k1⟩
    have K1 : Hid (Kept Nil w w1) := (K0.out.alloc _).trans k1
    have HL1 : Hid _ := k1.block _ _ (blk_past HL0.out _) (fun x => x.elim)
    clear k1 ok1 K0 HL0 KX
    obtain ⟨x0, x1, x2⟩ := lookB (blk_past HL1.out (.cells #[.int .i64 0, .int .i64 0, .slice ko 1 kc] 108))
    go_wp2_with fail
    refine (I _ (K1.out.alloc _)).mono ?_
    rintro e w2 ⟨rfl, k2⟩
    have K2 : Hid (Kept Nil w w2) := (K1.out.alloc _).trans k2
    have HL2 : Hid _ := k2.block _ _ (blk_past HL1.out _) (fun x => x.elim)
    have HN2 : Hid _ := k2.block _ _ (blk_new w1 _) (fun x => x.elim)
    clear k2 K1 HL1 x0 x1 x2
    go_wp2_with fail
    refine (J _ K2.out).mono ?_
    rintro e w3 ⟨rfl, k3⟩
    have K3 : Hid (Kept Nil w w3) := K2.out.trans k3
    have HL3 : Hid (w3.heap[w.heap.size]? = some (.cells #[.int .i64 base, .int .i64 bt, .slice ao es.length c] 108 (0, 0))) := k3.block _ _ HL2.out (fun x => x.elim)
    have HN3 := k3.block _ _ HN2.out (fun x => x.elim)
    have n2 := blk_at HN3 2 rfl
    clear k3 K2 HL2 HN2 HN3 I J
    cases lo with
    | false =>
      go_wp2
      go_ret
      exact ⟨rfl, K3.out⟩
    | true =>
    cases fo with
    | false =>
      go_wp2
      go_ret
      exact ⟨rfl, K3.out⟩
    | true =>
    obtain ⟨⟨lb0, lb1⟩, llen, lix, lnum⟩ := HLF.out rfl
    obtain ⟨⟨fb0, fb1⟩, flen, fix, fnum⟩ := HFF.out rfl
    have HLT : Hid (LogFacts base bt es ∧ LogFacts prev term ns) := ⟨HLF.out rfl, HFF.out rfl⟩
    clear lix lnum fix fnum HLF HFF
    obtain ⟨x0, x1, x2⟩ := lookB HL3.out
    go_wp2_with fail
    refine (logOf_any w.heap.size c base bt ao es w3 (HR.out.1.nil K3.out) llen).mono ?_
    rintro e w4 ⟨xo, xc, rfl, ox, k4⟩
    have K4 : Hid (Kept Nil w w4) := K3.out.trans k4
    have HL4 : Hid (w4.heap[w.heap.size]? = some (.cells #[.int .i64 base, .int .i64 bt, .slice ao es.length c] 108 (0, 0))) := k4.block _ _ HL3.out (fun x => x.elim)
    have OX4 : Hid (OwnX w.heap.size w4 xo xc es) := own_mono ox K3.out.size
    clear k4 K3 HL3 ox x0 x1 x2 n2
    go_wp2_with fail
    refine (entries_any w.heap.size d bo ns _ (HR.out.2.nil (K4.out.alloc _)) flen).mono ?_
    rintro e w5 ⟨yo, yc, rfl, oy, k5⟩
    have K5 : Hid (Kept Nil w w5) := (K4.out.alloc _).trans k5
    have HL5 : Hid (w5.heap[w.heap.size]? = some (.cells #[.int .i64 base, .int .i64 bt, .slice ao es.length c] 108 (0, 0))) := k5.block _ _ (blk_past HL4.out _) (fun x => x.elim)
    have HX5 : Hid _ := k5.block _ _ (blk_new w4 _) (fun x => x.elim)
    have OX5 : Hid (OwnX w.heap.size w5 xo xc es) := own_kept (World.ownsRow.alloc OX4.out _) k5 (fun _ _ _ x => x.elim)
    have OY5 : Hid (OwnX w.heap.size w5 yo yc ns) := own_mono oy (Nat.le_trans K4.out.size (by simp))
    clear k5 K4 HL4 OX4 oy
    have hsmE : Hid (∀ e ∈ es, e.dt.length ≤ maxLen) := HR.out.1.small
    have hsmN : Hid (∀ e ∈ ns, e.dt.length ≤ maxLen) := HR.out.2.small
    have XN := @ext_in base bt prev term es ns
    have CN := @cmpL_in base bt prev es
    have SN := @slL_in base prev most es
    have E1 := fun w' (hx : OwnX w.heap.size w' xo xc es) (hy : OwnX w.heap.size w' yo yc ns) => extend_any w'.heap.size xc yc base bt prev term xo yo es ns w' (hx.row hsmE.out) (hy.row hsmN.out) hx.no hy.no ⟨lb0, lb1⟩ llen flen hx.addr.choose_spec.2 hy.addr.choose_spec.2 ⟨fb0, fb1⟩ HLT.out.2.num
    have E2 := fun w' (hk : Kept Nil w w') => refExtend_any w.heap.size c d base bt prev term ao bo es ns w' (HR.out.1.nil hk) (HR.out.2.nil hk) ⟨lb0, lb1⟩ llen flen HCD.out.1 HCD.out.2 ⟨fb0, fb1⟩ HLT.out.2.ix
    generalize ext base bt es prev term ns = xx at E1 E2 XN
    obtain ⟨X, xm, xf, xl⟩ := xx
    simp only at E1 E2 XN
    have HXN : Hid ((∀ e ∈ X, e.dt.length ≤ maxLen) ∧ (X.length : Int) ≤ 2199023255552) := ⟨fun e he => (XN.1 e he).elim (hsmE.out e) (hsmN.out e), by have := XN.2; omega⟩
    have C1 := fun w' (hx : OwnX w.heap.size w' xo xc es) => compact_any w'.heap.size xc base bt prev xo es w' (hx.row hsmE.out) hx.no ⟨lb0, lb1⟩ llen hx.addr.choose_spec.2 (by omega)
    have C2 := fun w' (hk : Kept Nil w w') => refCompact_any w.heap.size c base bt prev ao es w' (HR.out.1.nil hk) ⟨lb0, lb1⟩ llen (by omega) HLT.out.1.ix
    generalize cmpL base bt es prev = cc at C1 C2 CN
    generalize cmpE base bt es prev = cer at C1 C2
    obtain ⟨cb, ct, CL⟩ := cc
    simp only at C1 C2 CN
    have HCN : Hid ((∀ e ∈ CL, e.dt.length ≤ maxLen) ∧ (CL.length : Int) ≤ 2199023255552) := ⟨fun e he => hsmE.out e (CN.1 e he), by have := CN.2; omega⟩
    have S1 := fun w' (hx : OwnX w.heap.size w' xo xc es) => slice_any w'.heap.size xc base bt prev most xo es w' (hx.row hsmE.out) hx.no ⟨lb0, lb1⟩ llen hx.addr.choose_spec.2 (by omega)
    have S2 := fun w' (hk : Kept Nil w w') => refSlice_any w.heap.size c base bt prev most ao es w' (HR.out.1.nil hk) ⟨lb0, lb1⟩ llen (by omega)
    generalize slL base es prev most = SL at S1 S2 SN
    generalize slE base es.length prev most = ser at S1 S2
    have HSN : Hid ((∀ e ∈ SL, e.dt.length ≤ maxLen) ∧ (SL.length : Int) ≤ 2199023255552) := ⟨fun e he => hsmE.out e (SN.1 e he), by have := SN.2; omega⟩
    have T1 := fun w' (hx : OwnX w.heap.size w' xo xc es) => termAt_any w'.heap.size xc base bt prev xo es w' (hx.row hsmE.out) ⟨lb0, lb1⟩ hl1 (by omega)
    have T2 := fun w' (hk : Kept Nil w w') => refTermAt_any w.heap.size c base bt prev ao es w' (HR.out.1.nil hk) ⟨lb0, lb1⟩ hl1 (by omega)
    generalize tAt base bt es prev = tt at T1 T2
    obtain ⟨tt1, tt2⟩ := tt
    simp only at T1 T2
    have L1 := fun w' (hx : OwnX w.heap.size w' xo xc es) => last_any w'.heap.size xc base bt xo es w' (hx.row hsmE.out) ⟨lb0, lb1⟩ hl1
    have L2 := fun w' (hk : Kept Nil w w') => refLast_any w.heap.size c base bt ao es w' (HR.out.1.nil hk) ⟨lb0, lb1⟩ hl1
    have F1 := fun w' (hx : OwnX w.heap.size w' xo xc es) => fresh_any w'.heap.size xc base bt prev term xo es w' (hx.row hsmE.out) ⟨lb0, lb1⟩ hl1
    have F2 := fun w' (hk : Kept Nil w w') => refFresh_any w.heap.size c base bt prev term ao es w' (HR.out.1.nil hk) ⟨lb0, lb1⟩ hl1
    generalize tmAt bt es es.length = ltm at L1 L2
    generalize freshB base bt es prev term = fr at F1 F2
    have HH1 := fun w' (hx : OwnX w.heap.size w' xo xc es) (hr : EntRow w.heap.size w' ao es) => heldEntries_any w.heap.size w.heap.size xc c xo ao es w' hx hr llen
    have HH2 := fun w' (hy : OwnX w.heap.size w' yo yc ns) (hr : EntRow w.heap.size w' bo ns) => heldEntries_any w.heap.size w.heap.size yc d yo bo ns w' hy hr flen
    clear XN CN SN hsmE hsmN HLT
    have cX0 := blk_at HX5.out 0 rfl
    have cX1 := blk_at HX5.out 1 rfl
    have cX2 := blk_at HX5.out 2 rfl
    go_wp2_with fail
    refine (E1 _ OX5.out OY5.out).mono ?_
    rintro e w6 ⟨ea, eac, rfl, oa, k6⟩
    have K6 : Hid (Kept Nil w w6) := K5.out.trans k6
    have HL6 : Hid _ := k6.block _ _ HL5.out (fun x => x.elim)
    have HX6 : Hid _ := k6.block _ _ HX5.out (fun x => x.elim)
    have OX6 : Hid (OwnX w.heap.size w6 xo xc es) := own_kept OX5.out k6 (fun _ _ _ x => x.elim)
    have OY6 : Hid (OwnX w.heap.size w6 yo yc ns) := own_kept OY5.out k6 (fun _ _ _ x => x.elim)
    have HZ6 : Hid (w5.heap.size ≤ w6.heap.size) := k6.size
    have OA6 : Hid (OwnEs w5.heap.size w6 ea eac X) := oa
    have HB5 : Hid (w.heap.size ≤ w5.heap.size ∧ w5.heap.size ≤ w6.heap.size) := ⟨Nat.le_trans K5.out.size (Nat.le_refl _), k6.size⟩
    have HXB : Hid ((∀ k, (Value.slice xo (es ++ [e99]).length xc).ownBlock = some k → k < w5.heap.size) ∧ (∀ k, (Value.slice yo (ns ++ [e99]).length yc).ownBlock = some k → k < w5.heap.size) ∧ w.heap.size < w5.heap.size ∧ w4.heap.size < w5.heap.size) := ⟨fun k hk => (OX5.out.lt k hk).2, fun k hk => (OY5.out.lt k hk).2, lt_of_block HL5.out, lt_of_block HX5.out⟩
    clear oa
    clear K5 HL5 HX5 OX5 OY5 cX0 cX1 cX2
    clear E1
    have cL0 := blk_at (blk_past HL6.out (.cells #[.int .i64 base, .int .i64 bt, .slice ea X.length eac] 108)) 0 rfl
    have cL1 := blk_at (blk_past HL6.out (.cells #[.int .i64 base, .int .i64 bt, .slice ea X.length eac] 108)) 1 rfl
    have cL2 := blk_at (blk_past HL6.out (.cells #[.int .i64 base, .int .i64 bt, .slice ea X.length eac] 108)) 2 rfl
    go_wp2_with fail
    refine (E2 _ (K6.out.alloc _)).mono ?_
    rintro e w7 ⟨ra, rac, rfl, orr, k7⟩
    have K7 : Hid (Kept Nil w w7) := (K6.out.alloc _).trans k7
    have HL7 : Hid _ := k7.block _ _ (blk_past HL6.out _) (fun x => x.elim)
    have HX7 : Hid _ := k7.block _ _ (blk_past HX6.out _) (fun x => x.elim)
    have HA7 : Hid _ := k7.block _ _ (blk_new w6 _) (fun x => x.elim)
    have OX7 : Hid (OwnX w.heap.size w7 xo xc es) := own_kept (World.ownsRow.alloc OX6.out _) k7 (fun _ _ _ x => x.elim)
    have OY7 : Hid (OwnX w.heap.size w7 yo yc ns) := own_kept (World.ownsRow.alloc OY6.out _) k7 (fun _ _ _ x => x.elim)
    have OA7 : Hid (OwnEs w5.heap.size w7 ea eac X) := own_kept (World.ownsRow.alloc OA6.out _) k7 (fun _ _ _ x => x.elim)
    have HZ7 : Hid (w5.heap.size ≤ w7.heap.size) := Nat.le_trans HZ6.out (Nat.le_trans (by simp) k7.size)
    have RR7 : Hid (EntRow w7.heap.size w7 ra X) := orr
    clear orr
    clear K6 HL6 HX6 OX6 OY6 OA6 cL0 cL1 cL2
    clear E2
    have cA0 := blk_at (blk_past HA7.out (.cells #[.int .i64 base, .int .i64 bt, .slice ra X.length rac] 108)) 0 rfl
    have cA1 := blk_at (blk_past HA7.out (.cells #[.int .i64 base, .int .i64 bt, .slice ra X.length rac] 108)) 1 rfl
    have cA2 := blk_at (blk_past HA7.out (.cells #[.int .i64 base, .int .i64 bt, .slice ra X.length rac] 108)) 2 rfl
    go_wp2_with fail
    refine (sameLog_yes _ _ _ _ base bt ea ra X _ (OwnEs.row (World.ownsRow.alloc OA7.out _) HXN.out.1) (RR7.out.alloc _) (by have := HXN.out.2; omega)).mono ?_
    rintro e w8 ⟨rfl, k8⟩
    have K8 : Hid (Kept Nil w w8) := (K7.out.alloc _).trans k8
    have HL8 : Hid _ := k8.block _ _ (blk_past HL7.out _) (fun x => x.elim)
    have HX8 : Hid _ := k8.block _ _ (blk_past HX7.out _) (fun x => x.elim)
    have HA8 : Hid _ := k8.block _ _ (blk_past HA7.out _) (fun x => x.elim)
    have HE8 : Hid _ := k8.block _ _ (blk_new w7 _) (fun x => x.elim)
    have OX8 : Hid (OwnX w.heap.size w8 xo xc es) := own_kept (World.ownsRow.alloc OX7.out _) k8 (fun _ _ _ x => x.elim)
    have OY8 : Hid (OwnX w.heap.size w8 yo yc ns) := own_kept (World.ownsRow.alloc OY7.out _) k8 (fun _ _ _ x => x.elim)
    have OA8 : Hid (OwnEs w5.heap.size w8 ea eac X) := own_kept (World.ownsRow.alloc OA7.out _) k8 (fun _ _ _ x => x.elim)
    have HZ8 : Hid (w5.heap.size ≤ w8.heap.size) := Nat.le_trans HZ7.out (Nat.le_trans (by simp) k8.size)
    clear K7 HL7 HX7 HA7 OX7 OY7 OA7 cA0 cA1 cA2
    clear RR7 HE8
    have cX0 := blk_at HX8.out 0 rfl
    have cX1 := blk_at HX8.out 1 rfl
    have cX2 := blk_at HX8.out 2 rfl
    go_wp2_with fail
    refine (C1 _ OX8.out).mono ?_
    rintro e w9 ⟨ic, icc, rfl, oi, k9⟩
    have K9 : Hid (Kept Nil w w9) := K8.out.trans k9
    have HL9 : Hid _ := k9.block _ _ HL8.out (fun x => x.elim)
    have HX9 : Hid _ := k9.block _ _ HX8.out (fun x => x.elim)
    have HA9 : Hid _ := k9.block _ _ HA8.out (fun x => x.elim)
    have OX9 : Hid (OwnX w.heap.size w9 xo xc es) := own_kept OX8.out k9 (fun _ _ _ x => x.elim)
    have OY9 : Hid (OwnX w.heap.size w9 yo yc ns) := own_kept OY8.out k9 (fun _ _ _ x => x.elim)
    have OA9 : Hid (OwnEs w5.heap.size w9 ea eac X) := own_kept OA8.out k9 (fun _ _ _ x => x.elim)
    have HZ9 : Hid (w5.heap.size ≤ w9.heap.size) := Nat.le_trans HZ8.out (Nat.le_trans (Nat.le_refl _) k9.size)
    have HS8x9 : Hid (w8.heap.size ≤ w9.heap.size) := k9.size
    have OI9 : Hid (OwnEs w8.heap.size w9 ic icc CL) := oi
    have HB8 : Hid (w5.heap.size ≤ w8.heap.size ∧ (∀ k, (Value.slice ea X.length eac).ownBlock = some k → k < w8.heap.size) ∧ w8.heap.size ≤ w9.heap.size) := ⟨HZ8.out, fun k hk => (OA8.out.lt k hk).2, k9.size⟩
    clear oi
    clear K8 HL8 HX8 HA8 OX8 OY8 OA8 cX0 cX1 cX2
    clear C1
    have cL0 := blk_at (blk_past HL9.out (.cells #[.int .i64 cb, .int .i64 ct, .slice ic CL.length icc] 108)) 0 rfl
    have cL1 := blk_at (blk_past HL9.out (.cells #[.int .i64 cb, .int .i64 ct, .slice ic CL.length icc] 108)) 1 rfl
    have cL2 := blk_at (blk_past HL9.out (.cells #[.int .i64 cb, .int .i64 ct, .slice ic CL.length icc] 108)) 2 rfl
    go_wp2_with fail
    refine (C2 _ (K9.out.alloc _)).mono ?_
    rintro e w10 ⟨rk, rkc, rfl, ok, k10⟩
    have K10 : Hid (Kept Nil w w10) := (K9.out.alloc _).trans k10
    have HL10 : Hid _ := k10.block _ _ (blk_past HL9.out _) (fun x => x.elim)
    have HX10 : Hid _ := k10.block _ _ (blk_past HX9.out _) (fun x => x.elim)
    have HA10 : Hid _ := k10.block _ _ (blk_past HA9.out _) (fun x => x.elim)
    have HI10 : Hid _ := k10.block _ _ (blk_new w9 _) (fun x => x.elim)
    have OX10 : Hid (OwnX w.heap.size w10 xo xc es) := own_kept (World.ownsRow.alloc OX9.out _) k10 (fun _ _ _ x => x.elim)
    have OY10 : Hid (OwnX w.heap.size w10 yo yc ns) := own_kept (World.ownsRow.alloc OY9.out _) k10 (fun _ _ _ x => x.elim)
    have OA10 : Hid (OwnEs w5.heap.size w10 ea eac X) := own_kept (World.ownsRow.alloc OA9.out _) k10 (fun _ _ _ x => x.elim)
    have OI10 : Hid (OwnEs w8.heap.size w10 ic icc CL) := own_kept (World.ownsRow.alloc OI9.out _) k10 (fun _ _ _ x => x.elim)
    have HZ10 : Hid (w5.heap.size ≤ w10.heap.size) := Nat.le_trans HZ9.out (Nat.le_trans (by simp) k10.size)
    have HS8x10 : Hid (w8.heap.size ≤ w10.heap.size) := Nat.le_trans HS8x9.out (Nat.le_trans (by simp) k10.size)
    have RK10 : Hid (EntRow w10.heap.size w10 rk CL) := OwnEs.row ok HCN.out.1
    clear ok
    clear K9 HL9 HX9 HA9 OX9 OY9 OA9 OI9 cL0 cL1 cL2
    clear C2
    have cI0 := blk_at (blk_past HI10.out (.cells #[.int .i64 cb, .int .i64 ct, .slice rk CL.length rkc] 108)) 0 rfl
    have cI1 := blk_at (blk_past HI10.out (.cells #[.int .i64 cb, .int .i64 ct, .slice rk CL.length rkc] 108)) 1 rfl
    have cI2 := blk_at (blk_past HI10.out (.cells #[.int .i64 cb, .int .i64 ct, .slice rk CL.length rkc] 108)) 2 rfl
    go_wp2_with fail
    refine (sameLog_yes _ _ _ _ cb ct ic rk CL _ (OwnEs.row (World.ownsRow.alloc OI10.out _) HCN.out.1) (RK10.out.alloc _) (by have := HCN.out.2; omega)).mono ?_
    rintro e w11 ⟨rfl, k11⟩
    have K11 : Hid (Kept Nil w w11) := (K10.out.alloc _).trans k11
    have HL11 : Hid _ := k11.block _ _ (blk_past HL10.out _) (fun x => x.elim)
    have HX11 : Hid _ := k11.block _ _ (blk_past HX10.out _) (fun x => x.elim)
    have HA11 : Hid _ := k11.block _ _ (blk_past HA10.out _) (fun x => x.elim)
    have HI11 : Hid _ := k11.block _ _ (blk_past HI10.out _) (fun x => x.elim)
    have HE11 : Hid _ := k11.block _ _ (blk_new w10 _) (fun x => x.elim)
    have OX11 : Hid (OwnX w.heap.size w11 xo xc es) := own_kept (World.ownsRow.alloc OX10.out _) k11 (fun _ _ _ x => x.elim)
    have OY11 : Hid (OwnX w.heap.size w11 yo yc ns) := own_kept (World.ownsRow.alloc OY10.out _) k11 (fun _ _ _ x => x.elim)
    have OA11 : Hid (OwnEs w5.heap.size w11 ea eac X) := own_kept (World.ownsRow.alloc OA10.out _) k11 (fun _ _ _ x => x.elim)
    have OI11 : Hid (OwnEs w8.heap.size w11 ic icc CL) := own_kept (World.ownsRow.alloc OI10.out _) k11 (fun _ _ _ x => x.elim)
    have HZ11 : Hid (w5.heap.size ≤ w11.heap.size) := Nat.le_trans HZ10.out (Nat.le_trans (by simp) k11.size)
    have HS8x11 : Hid (w8.heap.size ≤ w11.heap.size) := Nat.le_trans HS8x10.out (Nat.le_trans (by simp) k11.size)
    clear K10 HL10 HX10 HA10 HI10 OX10 OY10 OA10 OI10 cI0 cI1 cI2
    clear RK10 HE11
    have cX0 := blk_at HX11.out 0 rfl
    have cX1 := blk_at HX11.out 1 rfl
    have cX2 := blk_at HX11.out 2 rfl
    go_wp2_with fail
    refine (S1 _ OX11.out).mono ?_
    rintro e w12 ⟨nn, nnc, rfl, on, k12⟩
    have K12 : Hid (Kept Nil w w12) := K11.out.trans k12
    have HL12 : Hid _ := k12.block _ _ HL11.out (fun x => x.elim)
    have HX12 : Hid _ := k12.block _ _ HX11.out (fun x => x.elim)
    have HA12 : Hid _ := k12.block _ _ HA11.out (fun x => x.elim)
    have HI12 : Hid _ := k12.block _ _ HI11.out (fun x => x.elim)
    have OX12 : Hid (OwnX w.heap.size w12 xo xc es) := own_kept OX11.out k12 (fun _ _ _ x => x.elim)
    have OY12 : Hid (OwnX w.heap.size w12 yo yc ns) := own_kept OY11.out k12 (fun _ _ _ x => x.elim)
    have OA12 : Hid (OwnEs w5.heap.size w12 ea eac X) := own_kept OA11.out k12 (fun _ _ _ x => x.elim)
    have OI12 : Hid (OwnEs w8.heap.size w12 ic icc CL) := own_kept OI11.out k12 (fun _ _ _ x => x.elim)
    have HZ12 : Hid (w5.heap.size ≤ w12.heap.size) := Nat.le_trans HZ11.out (Nat.le_trans (Nat.le_refl _) k12.size)
    have HS8x12 : Hid (w8.heap.size ≤ w12.heap.size) := Nat.le_trans HS8x11.out (Nat.le_trans (Nat.le_refl _) k12.size)
    have HS11x12 : Hid (w11.heap.size ≤ w12.heap.size) := k12.size
    have ON12 : Hid (OwnEs w11.heap.size w12 nn nnc SL) := on
    have HB11 : Hid ((∀ k, (Value.slice ea X.length eac).ownBlock = some k → k < w11.heap.size) ∧ (∀ k, (Value.slice ic CL.length icc).ownBlock = some k → k < w11.heap.size)) := ⟨fun k hk => (OA11.out.lt k hk).2, fun k hk => (OI11.out.lt k hk).2⟩
    clear on
    clear K11 HL11 HX11 HA11 HI11 OX11 OY11 OA11 OI11 cX0 cX1 cX2
    clear S1
    have cL0 := blk_at HL12.out 0 rfl
    have cL1 := blk_at HL12.out 1 rfl
    have cL2 := blk_at HL12.out 2 rfl
    go_wp2_with fail
    refine (S2 _ K12.out).mono ?_
    rintro e w13 ⟨rp, rpc, rfl, op, k13⟩
    have K13 : Hid (Kept Nil w w13) := K12.out.trans k13
    have HL13 : Hid _ := k13.block _ _ HL12.out (fun x => x.elim)
    have HX13 : Hid _ := k13.block _ _ HX12.out (fun x => x.elim)
    have HA13 : Hid _ := k13.block _ _ HA12.out (fun x => x.elim)
    have HI13 : Hid _ := k13.block _ _ HI12.out (fun x => x.elim)
    have OX13 : Hid (OwnX w.heap.size w13 xo xc es) := own_kept OX12.out k13 (fun _ _ _ x => x.elim)
    have OY13 : Hid (OwnX w.heap.size w13 yo yc ns) := own_kept OY12.out k13 (fun _ _ _ x => x.elim)
    have OA13 : Hid (OwnEs w5.heap.size w13 ea eac X) := own_kept OA12.out k13 (fun _ _ _ x => x.elim)
    have OI13 : Hid (OwnEs w8.heap.size w13 ic icc CL) := own_kept OI12.out k13 (fun _ _ _ x => x.elim)
    have ON13 : Hid (OwnEs w11.heap.size w13 nn nnc SL) := own_kept ON12.out k13 (fun _ _ _ x => x.elim)
    have HZ13 : Hid (w5.heap.size ≤ w13.heap.size) := Nat.le_trans HZ12.out (Nat.le_trans (Nat.le_refl _) k13.size)
    have HS8x13 : Hid (w8.heap.size ≤ w13.heap.size) := Nat.le_trans HS8x12.out (Nat.le_trans (Nat.le_refl _) k13.size)
    have HS11x13 : Hid (w11.heap.size ≤ w13.heap.size) := Nat.le_trans HS11x12.out (Nat.le_trans (Nat.le_refl _) k13.size)
    have RP13 : Hid (EntRow w13.heap.size w13 rp SL) := OwnEs.row op HSN.out.1
    clear op
    clear K12 HL12 HX12 HA12 HI12 OX12 OY12 OA12 OI12 ON12 cL0 cL1 cL2
    clear S2
    go_wp2_with fail
    refine (sameEntries_yes _ _ _ _ nn rp SL _ (OwnEs.row ON13.out HSN.out.1) RP13.out (by have := HSN.out.2; omega)).mono ?_
    rintro e w14 ⟨rfl, k14⟩
    have K14 : Hid (Kept Nil w w14) := K13.out.trans k14
    have HL14 : Hid _ := k14.block _ _ HL13.out (fun x => x.elim)
    have HX14 : Hid _ := k14.block _ _ HX13.out (fun x => x.elim)
    have HA14 : Hid _ := k14.block _ _ HA13.out (fun x => x.elim)
    have HI14 : Hid _ := k14.block _ _ HI13.out (fun x => x.elim)
    have OX14 : Hid (OwnX w.heap.size w14 xo xc es) := own_kept OX13.out k14 (fun _ _ _ x => x.elim)
    have OY14 : Hid (OwnX w.heap.size w14 yo yc ns) := own_kept OY13.out k14 (fun _ _ _ x => x.elim)
    have OA14 : Hid (OwnEs w5.heap.size w14 ea eac X) := own_kept OA13.out k14 (fun _ _ _ x => x.elim)
    have OI14 : Hid (OwnEs w8.heap.size w14 ic icc CL) := own_kept OI13.out k14 (fun _ _ _ x => x.elim)
    have ON14 : Hid (OwnEs w11.heap.size w14 nn nnc SL) := own_kept ON13.out k14 (fun _ _ _ x => x.elim)
    have HZ14 : Hid (w5.heap.size ≤ w14.heap.size) := Nat.le_trans HZ13.out (Nat.le_trans (Nat.le_refl _) k14.size)
    have HS8x14 : Hid (w8.heap.size ≤ w14.heap.size) := Nat.le_trans HS8x13.out (Nat.le_trans (Nat.le_refl _) k14.size)
    have HS11x14 : Hid (w11.heap.size ≤ w14.heap.size) := Nat.le_trans HS11x13.out (Nat.le_trans (Nat.le_refl _) k14.size)
    clear K13 HL13 HX13 HA13 HI13 OX13 OY13 OA13 OI13 ON13
    clear RP13
    have cX0 := blk_at HX14.out 0 rfl
    have cX1 := blk_at HX14.out 1 rfl
    have cX2 := blk_at HX14.out 2 rfl
    go_wp2_with fail
    refine (T1 _ OX14.out).mono ?_
    rintro e w15 ⟨rfl, k15⟩
    have K15 : Hid (Kept Nil w w15) := K14.out.trans k15
    have HL15 : Hid _ := k15.block _ _ HL14.out (fun x => x.elim)
    have HX15 : Hid _ := k15.block _ _ HX14.out (fun x => x.elim)
    have HA15 : Hid _ := k15.block _ _ HA14.out (fun x => x.elim)
    have HI15 : Hid _ := k15.block _ _ HI14.out (fun x => x.elim)
    have OX15 : Hid (OwnX w.heap.size w15 xo xc es) := own_kept OX14.out k15 (fun _ _ _ x => x.elim)
    have OY15 : Hid (OwnX w.heap.size w15 yo yc ns) := own_kept OY14.out k15 (fun _ _ _ x => x.elim)
    have OA15 : Hid (OwnEs w5.heap.size w15 ea eac X) := own_kept OA14.out k15 (fun _ _ _ x => x.elim)
    have OI15 : Hid (OwnEs w8.heap.size w15 ic icc CL) := own_kept OI14.out k15 (fun _ _ _ x => x.elim)
    have ON15 : Hid (OwnEs w11.heap.size w15 nn nnc SL) := own_kept ON14.out k15 (fun _ _ _ x => x.elim)
    have HZ15 : Hid (w5.heap.size ≤ w15.heap.size) := Nat.le_trans HZ14.out (Nat.le_trans (Nat.le_refl _) k15.size)
    have HS8x15 : Hid (w8.heap.size ≤ w15.heap.size) := Nat.le_trans HS8x14.out (Nat.le_trans (Nat.le_refl _) k15.size)
    have HS11x15 : Hid (w11.heap.size ≤ w15.heap.size) := Nat.le_trans HS11x14.out (Nat.le_trans (Nat.le_refl _) k15.size)
    clear K14 HL14 HX14 HA14 HI14 OX14 OY14 OA14 OI14 ON14 cX0 cX1 cX2
    have cL0 := blk_at HL15.out 0 rfl
    have cL1 := blk_at HL15.out 1 rfl
    have cL2 := blk_at HL15.out 2 rfl
    go_wp2_with fail
    refine (T2 _ K15.out).mono ?_
    rintro e w16 ⟨rfl, k16⟩
    have K16 : Hid (Kept Nil w w16) := K15.out.trans k16
    have HL16 : Hid _ := k16.block _ _ HL15.out (fun x => x.elim)
    have HX16 : Hid _ := k16.block _ _ HX15.out (fun x => x.elim)
    have HA16 : Hid _ := k16.block _ _ HA15.out (fun x => x.elim)
    have HI16 : Hid _ := k16.block _ _ HI15.out (fun x => x.elim)
    have OX16 : Hid (OwnX w.heap.size w16 xo xc es) := own_kept OX15.out k16 (fun _ _ _ x => x.elim)
    have OY16 : Hid (OwnX w.heap.size w16 yo yc ns) := own_kept OY15.out k16 (fun _ _ _ x => x.elim)
    have OA16 : Hid (OwnEs w5.heap.size w16 ea eac X) := own_kept OA15.out k16 (fun _ _ _ x => x.elim)
    have OI16 : Hid (OwnEs w8.heap.size w16 ic icc CL) := own_kept OI15.out k16 (fun _ _ _ x => x.elim)
    have ON16 : Hid (OwnEs w11.heap.size w16 nn nnc SL) := own_kept ON15.out k16 (fun _ _ _ x => x.elim)
    have HZ16 : Hid (w5.heap.size ≤ w16.heap.size) := Nat.le_trans HZ15.out (Nat.le_trans (Nat.le_refl _) k16.size)
    have HS8x16 : Hid (w8.heap.size ≤ w16.heap.size) := Nat.le_trans HS8x15.out (Nat.le_trans (Nat.le_refl _) k16.size)
    have HS11x16 : Hid (w11.heap.size ≤ w16.heap.size) := Nat.le_trans HS11x15.out (Nat.le_trans (Nat.le_refl _) k16.size)
    clear K15 HL15 HX15 HA15 HI15 OX15 OY15 OA15 OI15 ON15 cL0 cL1 cL2
    have cX0 := blk_at HX16.out 0 rfl
    have cX1 := blk_at HX16.out 1 rfl
    have cX2 := blk_at HX16.out 2 rfl
    go_wp2_with fail
    refine (L1 _ OX16.out).mono ?_
    rintro e w17 ⟨rfl, k17⟩
    have K17 : Hid (Kept Nil w w17) := K16.out.trans k17
    have HL17 : Hid _ := k17.block _ _ HL16.out (fun x => x.elim)
    have HX17 : Hid _ := k17.block _ _ HX16.out (fun x => x.elim)
    have HA17 : Hid _ := k17.block _ _ HA16.out (fun x => x.elim)
    have HI17 : Hid _ := k17.block _ _ HI16.out (fun x => x.elim)
    have OX17 : Hid (OwnX w.heap.size w17 xo xc es) := own_kept OX16.out k17 (fun _ _ _ x => x.elim)
    have OY17 : Hid (OwnX w.heap.size w17 yo yc ns) := own_kept OY16.out k17 (fun _ _ _ x => x.elim)
    have OA17 : Hid (OwnEs w5.heap.size w17 ea eac X) := own_kept OA16.out k17 (fun _ _ _ x => x.elim)
    have OI17 : Hid (OwnEs w8.heap.size w17 ic icc CL) := own_kept OI16.out k17 (fun _ _ _ x => x.elim)
    have ON17 : Hid (OwnEs w11.heap.size w17 nn nnc SL) := own_kept ON16.out k17 (fun _ _ _ x => x.elim)
    have HZ17 : Hid (w5.heap.size ≤ w17.heap.size) := Nat.le_trans HZ16.out (Nat.le_trans (Nat.le_refl _) k17.size)
    have HS8x17 : Hid (w8.heap.size ≤ w17.heap.size) := Nat.le_trans HS8x16.out (Nat.le_trans (Nat.le_refl _) k17.size)
    have HS11x17 : Hid (w11.heap.size ≤ w17.heap.size) := Nat.le_trans HS11x16.out (Nat.le_trans (Nat.le_refl _) k17.size)
    clear K16 HL16 HX16 HA16 HI16 OX16 OY16 OA16 OI16 ON16 cX0 cX1 cX2
    have cL0 := blk_at HL17.out 0 rfl
    have cL1 := blk_at HL17.out 1 rfl
    have cL2 := blk_at HL17.out 2 rfl
    go_wp2_with fail
    refine (L2 _ K17.out).mono ?_
    rintro e w18 ⟨rfl, k18⟩
    have K18 : Hid (Kept Nil w w18) := K17.out.trans k18
    have HL18 : Hid _ := k18.block _ _ HL17.out (fun x => x.elim)
    have HX18 : Hid _ := k18.block _ _ HX17.out (fun x => x.elim)
    have HA18 : Hid _ := k18.block _ _ HA17.out (fun x => x.elim)
    have HI18 : Hid _ := k18.block _ _ HI17.out (fun x => x.elim)
    have OX18 : Hid (OwnX w.heap.size w18 xo xc es) := own_kept OX17.out k18 (fun _ _ _ x => x.elim)
    have OY18 : Hid (OwnX w.heap.size w18 yo yc ns) := own_kept OY17.out k18 (fun _ _ _ x => x.elim)
    have OA18 : Hid (OwnEs w5.heap.size w18 ea eac X) := own_kept OA17.out k18 (fun _ _ _ x => x.elim)
    have OI18 : Hid (OwnEs w8.heap.size w18 ic icc CL) := own_kept OI17.out k18 (fun _ _ _ x => x.elim)
    have ON18 : Hid (OwnEs w11.heap.size w18 nn nnc SL) := own_kept ON17.out k18 (fun _ _ _ x => x.elim)
    have HZ18 : Hid (w5.heap.size ≤ w18.heap.size) := Nat.le_trans HZ17.out (Nat.le_trans (Nat.le_refl _) k18.size)
    have HS8x18 : Hid (w8.heap.size ≤ w18.heap.size) := Nat.le_trans HS8x17.out (Nat.le_trans (Nat.le_refl _) k18.size)
    have HS11x18 : Hid (w11.heap.size ≤ w18.heap.size) := Nat.le_trans HS11x17.out (Nat.le_trans (Nat.le_refl _) k18.size)
    clear K17 HL17 HX17 HA17 HI17 OX17 OY17 OA17 OI17 ON17 cL0 cL1 cL2
    have hfr : (fr == fr) = true := by simp
    have G1 := fun w' (hk : Kept Nil w18 w') => F1 w' (own_kept OX18.out hk (fun _ _ _ x => x.elim))
    have G2 := fun w' (hk : Kept Nil w18 w') => F2 w' (K18.out.trans hk)
    have cX0 := blk_at HX18.out 0 rfl
    have cX1 := blk_at HX18.out 1 rfl
    have cX2 := blk_at HX18.out 2 rfl
    have cL0 := blk_at HL18.out 0 rfl
    have cL1 := blk_at HL18.out 1 rfl
    have cL2 := blk_at HL18.out 2 rfl
    clear F1 F2 T1 T2 L1 L2
    go_upto_region 23 with fail
    go_cut [46] from 51 (fun r wx => r = .bool true ∧ Hid (Kept Nil w18 wx))
    case first =>
      go_region_with (first | (go_at_call 82; refine (G1 _ (by first | exact KG.out | exact (Kept.refl _ _).drew)).mono ?_; rintro e wF ⟨rfl, kF⟩; have KF : Hid (Kept Nil w18 wF) := (by first | exact KG.out.trans kF | exact ((Kept.refl _ _).drew).trans kF); have dFX0 := blk_at (KF.out.block _ _ HX18.out (fun x => x.elim)) 0 rfl; have dFX1 := blk_at (KF.out.block _ _ HX18.out (fun x => x.elim)) 1 rfl; have dFX2 := blk_at (KF.out.block _ _ HX18.out (fun x => x.elim)) 2 rfl; have dFL0 := blk_at (KF.out.block _ _ HL18.out (fun x => x.elim)) 0 rfl; have dFL1 := blk_at (KF.out.block _ _ HL18.out (fun x => x.elim)) 1 rfl; have dFL2 := blk_at (KF.out.block _ _ HL18.out (fun x => x.elim)) 2 rfl; clear kF) | (go_at_call 83; refine (G2 _ (by first | exact KF.out | exact (Kept.refl _ _).drew)).mono ?_; rintro e wG ⟨rfl, kG⟩; have KG : Hid (Kept Nil w18 wG) := (by first | exact KF.out.trans kG | exact ((Kept.refl _ _).drew).trans kG); have dGX0 := blk_at (KG.out.block _ _ HX18.out (fun x => x.elim)) 0 rfl; have dGX1 := blk_at (KG.out.block _ _ HX18.out (fun x => x.elim)) 1 rfl; have dGX2 := blk_at (KG.out.block _ _ HX18.out (fun x => x.elim)) 2 rfl; have dGL0 := blk_at (KG.out.block _ _ HL18.out (fun x => x.elim)) 0 rfl; have dGL1 := blk_at (KG.out.block _ _ HL18.out (fun x => x.elim)) 1 rfl; have dGL2 := blk_at (KG.out.block _ _ HL18.out (fun x => x.elim)) 2 rfl; clear kG))
      all_goals
        go_wp2_with fail
        go_meet
        first | exact ⟨rfl, KG.out⟩ | exact ⟨rfl, KF.out⟩
    case rest =>
    obtain ⟨rfl, K19n⟩ := hcut
    rename World => w19
    have k19 := K19n.out
    have K19 : Hid (Kept Nil w w19) := K18.out.trans k19
    have HZ19 : Hid (w5.heap.size ≤ w19.heap.size) := Nat.le_trans HZ18.out k19.size
    have HS8x19 : Hid (w8.heap.size ≤ w19.heap.size) := Nat.le_trans HS8x18.out k19.size
    have HS11x19 : Hid (w11.heap.size ≤ w19.heap.size) := Nat.le_trans HS11x18.out k19.size
    have HL19 : Hid _ := k19.block _ _ HL18.out (fun x => x.elim)
    have HX19 : Hid _ := k19.block _ _ HX18.out (fun x => x.elim)
    have HA19 : Hid _ := k19.block _ _ HA18.out (fun x => x.elim)
    have HI19 : Hid _ := k19.block _ _ HI18.out (fun x => x.elim)
    have OX19 : Hid (OwnX w.heap.size w19 xo xc es) := own_kept OX18.out k19 (fun _ _ _ x => x.elim)
    have OY19 : Hid (OwnX w.heap.size w19 yo yc ns) := own_kept OY18.out k19 (fun _ _ _ x => x.elim)
    have OA19 : Hid (OwnEs w5.heap.size w19 ea eac X) := own_kept OA18.out k19 (fun _ _ _ x => x.elim)
    have OI19 : Hid (OwnEs w8.heap.size w19 ic icc CL) := own_kept OI18.out k19 (fun _ _ _ x => x.elim)
    have ON19 : Hid (OwnEs w11.heap.size w19 nn nnc SL) := own_kept ON18.out k19 (fun _ _ _ x => x.elim)
    clear k19 K19n K18 G1 G2 HL18 HX18 HA18 HI18 OX18 OY18 OA18 OI18 ON18 cX0 cX1 cX2 cL0 cL1 cL2
    have cX0 := blk_at HX19.out 0 rfl
    have cX1 := blk_at HX19.out 1 rfl
    have cX2 := blk_at HX19.out 2 rfl
    have cL0 := blk_at HL19.out 0 rfl
    have cL1 := blk_at HL19.out 1 rfl
    have cL2 := blk_at HL19.out 2 rfl
    go_wp2_with fail
    refine (HH1 _ OX19.out (HR.out.1.nil K19.out)).mono ?_
    rintro e w20 ⟨rfl, k20⟩
    have K20 : Hid (Kept Nil w w20) := K19.out.trans k20
    have HL20 : Hid _ := k20.block _ _ HL19.out (fun x => x.elim)
    have HX20 : Hid _ := k20.block _ _ HX19.out (fun x => x.elim)
    have HA20 : Hid _ := k20.block _ _ HA19.out (fun x => x.elim)
    have HI20 : Hid _ := k20.block _ _ HI19.out (fun x => x.elim)
    have OX20 : Hid (OwnX w.heap.size w20 xo xc es) := own_kept OX19.out k20 (fun _ _ _ x => x.elim)
    have OY20 : Hid (OwnX w.heap.size w20 yo yc ns) := own_kept OY19.out k20 (fun _ _ _ x => x.elim)
    have OA20 : Hid (OwnEs w5.heap.size w20 ea eac X) := own_kept OA19.out k20 (fun _ _ _ x => x.elim)
    have OI20 : Hid (OwnEs w8.heap.size w20 ic icc CL) := own_kept OI19.out k20 (fun _ _ _ x => x.elim)
    have ON20 : Hid (OwnEs w11.heap.size w20 nn nnc SL) := own_kept ON19.out k20 (fun _ _ _ x => x.elim)
    have HZ20 : Hid (w5.heap.size ≤ w20.heap.size) := Nat.le_trans HZ19.out (Nat.le_trans (Nat.le_refl _) k20.size)
    have HS8x20 : Hid (w8.heap.size ≤ w20.heap.size) := Nat.le_trans HS8x19.out (Nat.le_trans (Nat.le_refl _) k20.size)
    have HS11x20 : Hid (w11.heap.size ≤ w20.heap.size) := Nat.le_trans HS11x19.out (Nat.le_trans (Nat.le_refl _) k20.size)
    clear K19 HL19 HX19 HA19 HI19 OX19 OY19 OA19 OI19 ON19 cX0 cX1 cX2 cL0 cL1 cL2
    go_wp2_with fail
    refine (HH2 _ OY20.out (HR.out.2.nil K20.out)).mono ?_
    rintro e w21 ⟨rfl, k21⟩
    have K21 : Hid (Kept Nil w w21) := K20.out.trans k21
    have HL21 : Hid _ := k21.block _ _ HL20.out (fun x => x.elim)
    have HX21 : Hid _ := k21.block _ _ HX20.out (fun x => x.elim)
    have HA21 : Hid _ := k21.block _ _ HA20.out (fun x => x.elim)
    have HI21 : Hid _ := k21.block _ _ HI20.out (fun x => x.elim)
    have OX21 : Hid (OwnX w.heap.size w21 xo xc es) := own_kept OX20.out k21 (fun _ _ _ x => x.elim)
    have OY21 : Hid (OwnX w.heap.size w21 yo yc ns) := own_kept OY20.out k21 (fun _ _ _ x => x.elim)
    have OA21 : Hid (OwnEs w5.heap.size w21 ea eac X) := own_kept OA20.out k21 (fun _ _ _ x => x.elim)
    have OI21 : Hid (OwnEs w8.heap.size w21 ic icc CL) := own_kept OI20.out k21 (fun _ _ _ x => x.elim)
    have ON21 : Hid (OwnEs w11.heap.size w21 nn nnc SL) := own_kept ON20.out k21 (fun _ _ _ x => x.elim)
    have HZ21 : Hid (w5.heap.size ≤ w21.heap.size) := Nat.le_trans HZ20.out (Nat.le_trans (Nat.le_refl _) k21.size)
    have HS8x21 : Hid (w8.heap.size ≤ w21.heap.size) := Nat.le_trans HS8x20.out (Nat.le_trans (Nat.le_refl _) k21.size)
    have HS11x21 : Hid (w11.heap.size ≤ w21.heap.size) := Nat.le_trans HS11x20.out (Nat.le_trans (Nat.le_refl _) k21.size)
    clear K20 HL20 HX20 HA20 HI20 OX20 OY20 OA20 OI20 ON20
    have c0 := blk_at HA21.out 0 rfl
    have c1 := blk_at HA21.out 1 rfl
    have c2 := blk_at HA21.out 2 rfl
    go_wp2_with fail
    refine (overEntries_any OA21.out HXN.out.2 HZ21.out).mono ?_
    rintro e w22 ⟨rfl, k22⟩
    have KZ22 : Kept (fun j _ => w5.heap.size ≤ j) w21 w22 := k22.mono (fun j _ h => Nat.le_trans (Nat.le_refl _) (OA21.out.lt j h).1)
    have HL22 : Hid _ := KZ22.block _ _ HL21.out (fun h => by have := HXB.out.2.2.1; omega)
    have HX22 : Hid _ := KZ22.block _ _ HX21.out (fun h => by have := HXB.out.2.2.2; omega)
    have OX22 : Hid (OwnX w.heap.size w22 xo xc es) := own_keptB OX21.out KZ22 (fun j _ hj h => by have := HXB.out.1 j hj; omega)
    have OY22 : Hid (OwnX w.heap.size w22 yo yc ns) := own_keptB OY21.out KZ22 (fun j _ hj h => by have := HXB.out.2.1 j hj; omega)
    have HZ22 : Hid (w5.heap.size ≤ w22.heap.size) := Nat.le_trans HZ21.out k22.size
    have HI22 : Hid _ := k22.block _ _ HI21.out (fun h => own_ne_blk OA21.out HI21.out (by decide) h)
    have OI22 : Hid (OwnEs w8.heap.size w22 ic icc CL) := own_kept OI21.out k22 (fun j _ hb h => by have := HB8.out.2.1 j h; omega)
    have ON22 : Hid (OwnEs w11.heap.size w22 nn nnc SL) := own_kept ON21.out k22 (fun j _ hb h => by have := HB11.out.1 j h; omega)
    have H822 : Hid (w8.heap.size ≤ w22.heap.size ∧ w11.heap.size ≤ w22.heap.size) := ⟨Nat.le_trans HS8x21.out k22.size, Nat.le_trans HS11x21.out k22.size⟩
    have HT22 : Hid (Kept (fun j _ => w5.heap.size ≤ j) w21 w22) := KZ22
    clear KZ22 k22 HL21 HX21 OX21 OY21 c0 c1 c2
    have c0 := blk_at HI22.out 0 rfl
    have c1 := blk_at HI22.out 1 rfl
    have c2 := blk_at HI22.out 2 rfl
    go_wp2_with fail
    refine (overEntries_any OI22.out HCN.out.2 H822.out.1).mono ?_
    rintro e w23 ⟨rfl, k23⟩
    have KZ23 : Kept (fun j _ => w5.heap.size ≤ j) w22 w23 := k23.mono (fun j _ h => Nat.le_trans HB8.out.1 (OI22.out.lt j h).1)
    have HL23 : Hid _ := KZ23.block _ _ HL22.out (fun h => by have := HXB.out.2.2.1; omega)
    have HX23 : Hid _ := KZ23.block _ _ HX22.out (fun h => by have := HXB.out.2.2.2; omega)
    have OX23 : Hid (OwnX w.heap.size w23 xo xc es) := own_keptB OX22.out KZ23 (fun j _ hj h => by have := HXB.out.1 j hj; omega)
    have OY23 : Hid (OwnX w.heap.size w23 yo yc ns) := own_keptB OY22.out KZ23 (fun j _ hj h => by have := HXB.out.2.1 j hj; omega)
    have HZ23 : Hid (w5.heap.size ≤ w23.heap.size) := Nat.le_trans HZ22.out k23.size
    have ON23 : Hid (OwnEs w11.heap.size w23 nn nnc SL) := own_kept ON22.out k23 (fun j _ hb h => by have := HB11.out.2 j h; omega)
    have H823 : Hid (w8.heap.size ≤ w23.heap.size ∧ w11.heap.size ≤ w23.heap.size) := ⟨Nat.le_trans H822.out.1 k23.size, Nat.le_trans H822.out.2 k23.size⟩
    have HT23 : Hid (Kept (fun j _ => w5.heap.size ≤ j) w21 w23) := HT22.out.trans KZ23
    clear KZ23 k23 HL22 HX22 OX22 OY22 c0 c1 c2
    go_wp2_with fail
    refine (overEntries_any ON23.out HSN.out.2 H823.out.2).mono ?_
    rintro e w24 ⟨rfl, k24⟩
    have KZ24 : Kept (fun j _ => w5.heap.size ≤ j) w23 w24 := k24.mono (fun j _ h => Nat.le_trans HZ11.out (ON23.out.lt j h).1)
    have HL24 : Hid _ := KZ24.block _ _ HL23.out (fun h => by have := HXB.out.2.2.1; omega)
    have HX24 : Hid _ := KZ24.block _ _ HX23.out (fun h => by have := HXB.out.2.2.2; omega)
    have OX24 : Hid (OwnX w.heap.size w24 xo xc es) := own_keptB OX23.out KZ24 (fun j _ hj h => by have := HXB.out.1 j hj; omega)
    have OY24 : Hid (OwnX w.heap.size w24 yo yc ns) := own_keptB OY23.out KZ24 (fun j _ hj h => by have := HXB.out.2.1 j hj; omega)
    have HZ24 : Hid (w5.heap.size ≤ w24.heap.size) := Nat.le_trans HZ23.out k24.size
    have HT24 : Hid (Kept (fun j _ => w5.heap.size ≤ j) w21 w24) := HT23.out.trans KZ24
    clear KZ24 k24 HL23 HX23 OX23 OY23
    have K24 : Hid (Kept Nil w w24) := Kept.ofNew K21.out HT24.out (fun j _ h => by have := HB5.out.1; omega)
    have cX0 := blk_at HX24.out 0 rfl
    have cX1 := blk_at HX24.out 1 rfl
    have cX2 := blk_at HX24.out 2 rfl
    have cL0 := blk_at HL24.out 0 rfl
    have cL1 := blk_at HL24.out 1 rfl
    have cL2 := blk_at HL24.out 2 rfl
    go_wp2_with fail
    refine (HH1 _ OX24.out (HR.out.1.nil K24.out)).mono ?_
    rintro e w25 ⟨rfl, k25⟩
    have K25 : Hid (Kept Nil w w25) := K24.out.trans k25
    have HL25 : Hid _ := k25.block _ _ HL24.out (fun x => x.elim)
    have HX25 : Hid _ := k25.block _ _ HX24.out (fun x => x.elim)
    have OX25 : Hid (OwnX w.heap.size w25 xo xc es) := own_kept OX24.out k25 (fun _ _ _ x => x.elim)
    have OY25 : Hid (OwnX w.heap.size w25 yo yc ns) := own_kept OY24.out k25 (fun _ _ _ x => x.elim)
    have HZ25 : Hid (w5.heap.size ≤ w25.heap.size) := Nat.le_trans HZ24.out (Nat.le_trans (Nat.le_refl _) k25.size)
    clear K24 HL24 HX24 OX24 OY24 cX0 cX1 cX2 cL0 cL1 cL2
    go_wp2_with fail
    refine (HH2 _ OY25.out (HR.out.2.nil K25.out)).mono ?_
    rintro e w26 ⟨rfl, k26⟩
    have K26 : Hid (Kept Nil w w26) := K25.out.trans k26
    have HL26 : Hid _ := k26.block _ _ HL25.out (fun x => x.elim)
    have HX26 : Hid _ := k26.block _ _ HX25.out (fun x => x.elim)
    have OX26 : Hid (OwnX w.heap.size w26 xo xc es) := own_kept OX25.out k26 (fun _ _ _ x => x.elim)
    have OY26 : Hid (OwnX w.heap.size w26 yo yc ns) := own_kept OY25.out k26 (fun _ _ _ x => x.elim)
    have HZ26 : Hid (w5.heap.size ≤ w26.heap.size) := Nat.le_trans HZ25.out (Nat.le_trans (Nat.le_refl _) k26.size)
    clear K25 HL25 HX25 OX25 OY25
    go_wp2
    go_ret
    exact ⟨rfl, K26.out⟩

end Go.Proofs.Ytcbeonhohbgnmaa
