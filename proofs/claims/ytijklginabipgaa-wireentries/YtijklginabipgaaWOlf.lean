/-
  Joined: WCfg3, WCfg4, WSnap1.
-/
import Derived.Test.YtijklginabipgaaWCfg2
import Derived.Test.YtijklginabipgaaWEnt2
import Derived.Test.YtijklginabipgaaWNumsR
/-
  A configuration written: the writer's list and config, PutConfig; and the document's: the same bytes.
-/
namespace Go.Proofs.Ytijklginabipgaa
open Go.RowKit

theorem not_below {b B k : Nat} {o : Obj} (hB : B ≤ b) (hk : k < B) : ¬ Wr b k o := by
  rintro (e | ⟨h, _⟩) <;> omega

def encNums (ns : List Nat) : List UInt8 := enc ns.length ++ encAll ns

set_option maxRecDepth 100000 in
set_option maxHeartbeats 1000000 in
theorem putListI_any (b B cap : Nat) (ao : Option Addr) (ns : List Nat) (l : List UInt8) (w : World) (h : WInv b w l) (hr : IntRow B w ao (intsOf ns)) (hB : B ≤ b)
    (hn : ∀ n ∈ ns, n ≤ 1099511627775) (hnl : ns.length ≤ 1000) (hl : l.length ≤ 100000000000) :
    Calls Try.prog 148 #[.pointer (some ⟨b, 0, none⟩), .slice ao ns.length cap, .func (.func 149) #[] #[]] w fun e w' => e = .returned (.tuple #[]) ∧ WInv b w' (l ++ encNums ns) ∧ Kept (Wr b) w w' := by
  have HR : Hid (IntRow B w ao (intsOf ns)) := hr
  have HN : Hid (∀ n ∈ ns, n ≤ 1099511627775) := hn
  have HL : Hid (l.length ≤ 100000000000 ∧ B ≤ b) := ⟨hl, hB⟩
  have N0 := wNumber_any b ns.length l w h (by omega) (by omega)
  have hnl' : (ns.length : Int) ≤ 1000 := by omega
  have HE0 : Hid ((enc ns.length).length ≤ 6) := enc_len6 (by omega)
  clear hr hn hl hB h
  go_enter Try.func148, Try.ntmps148
  go_wp2_with fail
  refine N0.mono ?_
  rintro e w1 ⟨rfl, i1, k1⟩
  have HK1 : Hid (Kept (Wr b) w w1) := k1
  have HI1 : Hid (WInv b w1 (l ++ enc ns.length)) := i1
  clear i1 k1 N0
  go_wp2
  go_loopw [14] (fun i wr => ∃ k : Nat, k ≤ ns.length ∧ i = .int .i64 k ∧ Hid (WInv b wr ((l ++ enc ns.length) ++ encAll (ns.take k))) ∧ Hid (Kept (Wr b) w wr)) (fun i _ => ns.length - (intOf i).toNat)
  case atStart => exact ⟨0, Nat.zero_le _, rfl, by show WInv _ _ _; simpa [encAll] using HI1.out, HK1.out⟩
  case round =>
    obtain ⟨k, hk, rfl, HI, HK⟩ := hrel
    clear HI1 HK1
    by_cases hlt : k < ns.length
    · obtain ⟨a, rfl, _, hcell⟩ := (HR.out.kept HK.out (fun _ _ h => not_below HL.out.2 h)) k (by simpa [intsOf] using hlt)
      replace hcell : wr.cell? (a.add k) = some (.int .i64 (ns[k] : Nat)) := by simpa [intsOf] using hcell
      have hle := HN.out ns[k] (List.getElem_mem hlt)
      have HE : Hid (((l ++ enc ns.length) ++ encAll (ns.take k)) ++ enc ns[k] = (l ++ enc ns.length) ++ encAll (ns.take (k + 1))) := by
        show _ = _
        rw [List.take_succ_eq_append_getElem hlt, encAll_snoc, List.append_assoc, List.append_assoc]
      have H := wNumber_any b ns[k] _ wr HI.out hle (by
        have h1 := encAll_len (ns.take k) (fun n hn => HN.out n (List.mem_of_mem_take hn))
        have h2 := HL.out.1
        have h3 := HE0.out
        simp only [List.length_append, List.length_take] at h1 ⊢
        omega)
      rw [HE.out] at H
      generalize ns[k] = x at *
      have hle' : (x : Int) ≤ 1099511627775 := by omega
      clear hle HI HE
      go_wp2_with fail
      refine H.mono ?_
      rintro e w' ⟨rfl, i', k'⟩
      have HK' : Hid (Kept (Wr b) w w') := HK.out.trans k'
      have HI' : Hid (WInv b w' ((l ++ enc ns.length) ++ encAll (ns.take (k + 1)))) := i'
      clear i' k'
      go_wp2
      go_roundw
      case rel => exact ⟨k + 1, by omega, by go_num, HI'.out, HK'.out⟩
      case measure => simp [intOf]; omega
    · have HI2 : Hid (WInv b wr (l ++ encNums ns)) := by
        show WInv _ _ _
        have := HI.out
        rw [List.take_of_length_le (by omega), List.append_assoc] at this
        exact this
      go_wp2
      go_end0
      exact ⟨rfl, HI2.out, HK.out⟩

/-- A configuration's bytes. -/
def encCfg (v n l : List Nat) : List UInt8 := encNums v ++ encNums n ++ encNums l
/-- Numbers that are small, and few. -/
structure Few (ns : List Nat) : Prop where
  le : ∀ n ∈ ns, n ≤ 1099511627775
  len : ns.length ≤ 1000
theorem Few.enc {ns : List Nat} (h : Few ns) : (encNums ns).length ≤ 6006 := by
  have h1 := encAll_len ns h.le
  have h2 := enc_len6 (n := ns.length) (by have := h.len; omega)
  have h3 := h.len
  simp only [encNums, List.length_append]
  omega

set_option maxRecDepth 100000 in
set_option maxHeartbeats 1000000 in
theorem wConfig_any (b B c1 c2 c3 : Nat) (a1 a2 a3 : Option Addr) (v n l : List Nat) (t : List UInt8) (w : World) (h : WInv b w t) (hr : CfRows B w a1 a2 a3 (intsOf v) (intsOf n) (intsOf l)) (hB : B ≤ b) (f1 : Few v) (f2 : Few n) (f3 : Few l) (hl : t.length ≤ 10000000000) :
    Calls Try.prog 91 #[.pointer (some ⟨b, 0, none⟩), .agg #[.slice a1 v.length c1, .slice a2 n.length c2, .slice a3 l.length c3]] w fun e w' => e = .returned (.tuple #[]) ∧ WInv b w' (t ++ encCfg v n l) ∧ Kept (Wr b) w w' := by
  have hlt := h.lt
  have HX : Hid (¬ Wr b w.heap.size (.cells #[.slice a1 v.length c1, .slice a2 n.length c2, .slice a3 l.length c3] 24)) := not_wr (Nat.ne_of_gt hlt) (by decide)
  have HB : Hid (_) := blk_new w (.cells #[.slice a1 v.length c1, .slice a2 n.length c2, .slice a3 l.length c3] 24)
  have HR : Hid (CfRows B (w.alloc (.cells #[.slice a1 v.length c1, .slice a2 n.length c2, .slice a3 l.length c3] 24)) a1 a2 a3 (intsOf v) (intsOf n) (intsOf l)) := hr.alloc _
  have HL : Hid (t.length ≤ 10000000000 ∧ B ≤ b ∧ Few v ∧ Few n ∧ Few l) := ⟨hl, hB, f1, f2, f3⟩
  have HE : Hid (t ++ encCfg v n l = ((t ++ encNums v) ++ encNums n) ++ encNums l) := by show _ = _; simp [encCfg]
  have P1 := putListI_any b B c1 a1 v t _ (h.alloc _) HR.out.r1 hB f1.le f1.len (by omega)
  clear hlt hr hB f1 f2 f3 hl h
  rw [HE.out]
  go_enter Try.func91, Try.ntmps91
  go_wp2_with fail
  refine P1.mono ?_
  rintro e w1 ⟨rfl, i1, k1⟩
  have X1 : Hid (_) := k1.block _ _ HB.out HX.out
  have R1 : Hid (_) := HR.out.kept k1 (fun _ _ h => not_below HL.out.2.1 h)
  have q1 := blk_at X1.out 1 rfl
  have P2 := putListI_any b B c2 a2 n _ w1 i1 R1.out.r2 HL.out.2.1 HL.out.2.2.2.1.le HL.out.2.2.2.1.len (by have := HL.out.1; have := HL.out.2.2.1.enc; simp only [List.length_append]; omega)
  go_wp2_with fail
  refine P2.mono ?_
  rintro e w2 ⟨rfl, i2, k2⟩
  have X2 : Hid (_) := k2.block _ _ X1.out HX.out
  have R2 : Hid (_) := R1.out.kept k2 (fun _ _ h => not_below HL.out.2.1 h)
  have q2 := blk_at X2.out 2 rfl
  have P3 := putListI_any b B c3 a3 l _ w2 i2 R2.out.r3 HL.out.2.1 HL.out.2.2.2.2.le HL.out.2.2.2.2.len (by have := HL.out.1; have := HL.out.2.2.1.enc; have := HL.out.2.2.2.1.enc; simp only [List.length_append]; omega)
  go_wp2_with fail
  refine P3.mono ?_
  rintro e w3 ⟨rfl, i3, k3⟩
  go_wp2
  go_end0
  exact ⟨rfl, i3, ((((Kept.refl _ _).alloc _).trans k1).trans k2).trans k3⟩

theorem Kept.belowWr {w w' : World} {o1 o2 : Obj} (h : Kept (Wr (w.heap.size + 1)) ((w.alloc o1).alloc o2) w') : Kept Nil w w' :=
  Kept.ofNew (((Kept.refl _ _).alloc _).alloc _) h (by rintro k o (rfl | ⟨hk, _⟩) <;> omega)

set_option maxRecDepth 100000 in
set_option maxHeartbeats 1000000 in
theorem writeCfg_ok (c1 c2 c3 : Nat) (a1 a2 a3 : Option Addr) (v n l : List Nat) (w : World) (hr : CfRows w.heap.size w a1 a2 a3 (intsOf v) (intsOf n) (intsOf l)) (f1 : Few v) (f2 : Few n) (f3 : Few l) (c : Int) :
    Calls Try.prog 90 #[.agg #[.slice a1 v.length c1, .slice a2 n.length c2, .slice a3 l.length c3], .bool true, .int .i64 c, .func (.func 91) #[] #[]] w fun e w' => e = .returned (.tuple #[.string (bs (encCfg v n l)), .int .i64 0]) ∧ Kept Nil w w' := by
  have hw := winv_new (w.alloc (.cells #[.slice a1 v.length c1, .slice a2 n.length c2, .slice a3 l.length c3] 24))
  have es : (w.alloc (.cells #[.slice a1 v.length c1, .slice a2 n.length c2, .slice a3 l.length c3] 24)).heap.size = w.heap.size + 1 := by simp
  rw [es] at hw
  have H1 := wConfig_any (w.heap.size + 1) w.heap.size c1 c2 c3 a1 a2 a3 v n l [] _ hw ((hr.alloc _).alloc _) (by omega) f1 f2 f3 (by simp)
  simp only [List.nil_append] at H1
  clear hw es hr f1 f2 f3
  go_enter Try.func90, Try.ntmps90
  go_wp2_with fail
  refine H1.mono ?_
  rintro e w1 ⟨rfl, ⟨ao, c', hb, ho⟩, hk⟩
  have h0 := blk_at hb 0 rfl
  have hcv := conv_own ho
  go_wp2
  go_ret2
  exact ⟨rfl, hk.belowWr⟩

set_option maxRecDepth 100000 in
theorem writeCfg_no (cs : Array Value) (w : World) (c : Int) (f : Value) :
    Calls Try.prog 90 #[.agg cs, .bool false, .int .i64 c, f] w fun e w' => e = .returned (.tuple #[.string (bs []), .int .i64 c]) ∧ Kept Nil w w' := by
  go_enter Try.func90, Try.ntmps90
  go_wp2
  go_ret2
  exact ⟨rfl, (Kept.refl _ _).alloc _⟩

/-! ### a configuration that may be has few nodes -/
theorem rise_facts : ∀ (zs : List Int) (p : Int), 0 ≤ p → rise p zs = true → (∀ z ∈ zs, 1 ≤ z ∧ z ≤ 9 ∧ p < z) ∧ (p ≤ 9 → (zs.length : Int) ≤ 9 - p)
  | [], p, _, _ => ⟨fun z hz => by simp at hz, fun h => by simp; omega⟩
  | y :: t, p, hp, h => by
    simp only [rise, Bool.and_eq_true, decide_eq_true_eq, isNd] at h
    obtain ⟨⟨⟨h1, h2⟩, h3⟩, h4⟩ := h
    have ih := rise_facts t y (by omega) h4
    refine ⟨fun z hz => ?_, fun _ => ?_⟩
    · rcases List.mem_cons.1 hz with rfl | hz
      · exact ⟨h1, h2, h3⟩
      · have := ih.1 z hz
        exact ⟨this.1, this.2.1, by omega⟩
    · have := ih.2 h2
      simp only [List.length_cons]
      omega
def natsOf (zs : List Int) : List Nat := zs.map Int.toNat
theorem ints_nats {zs : List Int} (h : ∀ z ∈ zs, 0 ≤ z) : intsOf (natsOf zs) = zs := by
  unfold intsOf natsOf
  rw [List.map_map]
  refine (List.map_congr_left (g := id) fun z hz => ?_).trans (List.map_id _)
  have := h z hz
  show ((z.toNat : Nat) : Int) = z
  omega
theorem rise_few {zs : List Int} (h : rise 0 zs = true) : intsOf (natsOf zs) = zs ∧ Few (natsOf zs) ∧ zs.length ≤ 9 := by
  have hf := rise_facts zs 0 (by omega) h
  have h9 := hf.2 (by omega)
  refine ⟨ints_nats fun z hz => by have := hf.1 z hz; omega, ⟨fun n hn => ?_, by simp [natsOf]; omega⟩, by omega⟩
  obtain ⟨z, hz, rfl⟩ := List.mem_map.1 hn
  have := hf.1 z hz
  omega
theorem isCfg_facts {v n l : List Int} (h : isCfg v n l = true) : rise 0 v = true ∧ rise 0 n = true ∧ rise 0 l = true := by
  simp only [isCfg, Bool.and_eq_true] at h
  exact ⟨h.1.1.1.2, h.1.1.2, h.1.2⟩
def putCfg (v n l : List Int) : List UInt8 × Int := if isCfg v n l then (encCfg (natsOf v) (natsOf n) (natsOf l), 0) else ([], 8)
theorem natsOf_len (zs : List Int) : (natsOf zs).length = zs.length := by simp [natsOf]

theorem writeCfg_any (c1 c2 c3 : Nat) (a1 a2 a3 : Option Addr) (v n l : List Int) (w : World) (hr : CfRows w.heap.size w a1 a2 a3 v n l) :
    Calls Try.prog 90 #[.agg #[.slice a1 v.length c1, .slice a2 n.length c2, .slice a3 l.length c3], .bool (isCfg v n l), .int .i64 8, .func (.func 91) #[] #[]] w fun e w' => e = .returned (.tuple #[.string (bs (putCfg v n l).1), .int .i64 (putCfg v n l).2]) ∧ Kept Nil w w' := by
  unfold putCfg
  cases hq : isCfg v n l with
  | false => exact writeCfg_no _ w 8 _
  | true =>
    obtain ⟨r1, r2, r3⟩ := isCfg_facts hq
    obtain ⟨e1, f1, _⟩ := rise_few r1
    obtain ⟨e2, f2, _⟩ := rise_few r2
    obtain ⟨e3, f3, _⟩ := rise_few r3
    have H := writeCfg_ok c1 c2 c3 a1 a2 a3 (natsOf v) (natsOf n) (natsOf l) w (by rw [e1, e2, e3]; exact hr) f1 f2 f3 8
    rw [natsOf_len, natsOf_len, natsOf_len] at H
    exact H

set_option maxRecDepth 100000 in
set_option maxHeartbeats 1000000 in
theorem putConfig_any (B c1 c2 c3 : Nat) (a1 a2 a3 : Option Addr) (v n l : List Int) (w : World) (h : CfRows B w a1 a2 a3 v n l) (h1 : (v.length : Int) ≤ 9223372036854775807) (h2 : (n.length : Int) ≤ 9223372036854775807) (h3 : (l.length : Int) ≤ 9223372036854775807) :
    Calls Try.prog 42 #[.agg #[.slice a1 v.length c1, .slice a2 n.length c2, .slice a3 l.length c3]] w fun e w' => e = .returned (.tuple #[.string (bs (putCfg v n l).1), .int .i64 (putCfg v n l).2]) ∧ Kept Nil w w' := by
  have HR : Hid (CfRows B w a1 a2 a3 v n l) := h
  have H1 := fun w' (hk : Kept Nil w w') => valid_any B c1 c2 c3 a1 a2 a3 v n l w' (HR.out.nil hk) h1 h2 h3
  have H2 := fun w' (hk : Kept Nil w w') => writeCfg_any c1 c2 c3 a1 a2 a3 v n l w' (HR.out.nil hk).full
  generalize isCfg v n l = okb at H1 H2
  generalize putCfg v n l = pr at H2 ⊢
  obtain ⟨p1, p2⟩ := pr
  simp only at H2 ⊢
  clear h h1 h2 h3
  have HB : Hid (_) := blk_new w (.cells #[.slice a1 v.length c1, .slice a2 n.length c2, .slice a3 l.length c3] 24)
  have HK : Hid (Kept Nil w (w.alloc (.cells #[.slice a1 v.length c1, .slice a2 n.length c2, .slice a3 l.length c3] 24)).drew) := ((Kept.refl _ _).alloc _).drew
  go_enter Try.func42, Try.ntmps42
  go_wp2
  go_region_with (first | (go_at_call 20; go_must (refine (H1 _ HK.out).mono ?_); rintro e w1 ⟨rfl, k1⟩; have X1 := k1.block _ _ HB.out (fun x => x.elim); have q0 := blk_at X1 0 rfl; have q1 := blk_at X1 1 rfl; have q2 := blk_at X1 2 rfl; have HK1 : Hid (Kept Nil w w1) := HK.out.trans k1; clear X1) | (go_at_call 90; go_must (refine (H2 _ HK1.out).mono ?_); rintro e w2 ⟨rfl, k2⟩))
  all_goals go_wp2
  all_goals go_ret2
  all_goals exact ⟨rfl, HK1.out.trans k2⟩

/-! ### the document's -/
set_option maxRecDepth 100000 in
set_option maxHeartbeats 1000000 in
theorem refNumbers_any (B cap : Nat) (ao : Option Addr) (ns : List Nat) (w : World) (hr : IntRow B w ao (intsOf ns)) (hf : Few ns) :
    Calls Try.prog 150 #[.slice ao ns.length cap] w fun e w' => e = .returned (.string (bs (encNums ns))) ∧ Kept Nil w w' := by
  have HR : Hid (IntRow B w ao (intsOf ns)) := hr
  have HF : Hid (Few ns) := hf
  have hnl : (ns.length : Int) ≤ 1000 := by have := hf.len; omega
  have N0 := refNum_any ns.length (by omega)
  have hap := bs_append
  clear hr hf
  go_enter Try.func150, Try.ntmps150
  go_wp2_with fail
  refine (N0 _).mono ?_
  rintro e w1 ⟨rfl, k1⟩
  have HK1 : Hid (Kept Nil w w1) := k1
  clear k1 N0
  go_wp2
  go_loopw [3, 4] (fun s i wr => ∃ k : Nat, k ≤ ns.length ∧ i = .int .i64 k ∧ s = .string (bs (enc ns.length ++ encAll (ns.take k))) ∧ Hid (Kept Nil w wr)) (fun _ i _ => ns.length - (intOf i).toNat)
  case atStart => exact ⟨0, Nat.zero_le _, rfl, by simp [encAll], HK1.out⟩
  case round =>
    obtain ⟨k, hk, rfl, rfl, HK⟩ := hrel
    clear HK1
    by_cases hlt : k < ns.length
    · obtain ⟨a, rfl, _, hcell⟩ := (HR.out.nil HK.out) k (by simpa [intsOf] using hlt)
      replace hcell : wr.cell? (a.add k) = some (.int .i64 (ns[k] : Nat)) := by simpa [intsOf] using hcell
      have hle := HF.out.le ns[k] (List.getElem_mem hlt)
      have HE : Hid ((enc ns.length ++ encAll (ns.take k)) ++ enc ns[k] = enc ns.length ++ encAll (ns.take (k + 1))) := by
        show _ = _
        rw [List.take_succ_eq_append_getElem hlt, encAll_snoc, List.append_assoc]
      have hz1 : (bs (enc ns.length ++ encAll (ns.take k))).size ≤ 6006 := by
        rw [bs_size]
        have h1 := encAll_len (ns.take k) (fun n hn => HF.out.le n (List.mem_of_mem_take hn))
        have h2 := enc_len6 (n := ns.length) (by omega)
        simp only [List.length_take, List.length_append] at h1 ⊢
        omega
      have hz2 : (bs (enc ns[k])).size ≤ 6 := by rw [bs_size]; exact enc_len6 hle
      have H := refNum_any ns[k] hle
      generalize ns[k] = x at *
      generalize enc ns.length ++ encAll (ns.take k) = s at HE hz1
      have hle' : (x : Int) ≤ 1099511627775 := by omega
      clear hle
      go_wp2_with fail
      refine (H _).mono ?_
      rintro e w' ⟨rfl, k'⟩
      have HK' : Hid _ := HK.out.trans k'
      clear k'
      go_wp2
      go_roundw
      case rel => exact ⟨k + 1, by omega, by go_num, by rw [← HE.out, ← bs_append], HK'.out⟩
      case measure => simp [intOf]; omega
    · rw [List.take_of_length_le (by omega)]
      go_wp2
      go_ret
      exact ⟨rfl, HK.out⟩

set_option maxRecDepth 100000 in
set_option maxHeartbeats 1000000 in
theorem refConfig_any (B c1 c2 c3 : Nat) (a1 a2 a3 : Option Addr) (v n l : List Nat) (w : World) (hr : CfRows B w a1 a2 a3 (intsOf v) (intsOf n) (intsOf l)) (f1 : Few v) (f2 : Few n) (f3 : Few l) :
    Calls Try.prog 92 #[.agg #[.slice a1 v.length c1, .slice a2 n.length c2, .slice a3 l.length c3]] w fun e w' => e = .returned (.string (bs (encCfg v n l))) ∧ Kept Nil w w' := by
  have HR : Hid (CfRows B w a1 a2 a3 (intsOf v) (intsOf n) (intsOf l)) := hr
  have HB : Hid (_) := blk_new w (.cells #[.slice a1 v.length c1, .slice a2 n.length c2, .slice a3 l.length c3] 24)
  have N1 := fun w h => refNumbers_any B c1 a1 v w h f1
  have N2 := fun w h => refNumbers_any B c2 a2 n w h f2
  have N3 := fun w h => refNumbers_any B c3 a3 l w h f3
  have z1 : (bs (encNums v)).size ≤ 6006 := by rw [bs_size]; exact f1.enc
  have z2 : (bs (encNums n)).size ≤ 6006 := by rw [bs_size]; exact f2.enc
  have z3 : (bs (encNums l)).size ≤ 6006 := by rw [bs_size]; exact f3.enc
  have z4 : (bs (encNums v) ++ bs (encNums n)).size ≤ 12012 := by rw [bs_append, bs_size, List.length_append]; rw [bs_size] at z1 z2; omega
  have HE : Hid (bs (encNums v) ++ bs (encNums n) ++ bs (encNums l) = bs (encCfg v n l)) := by show _ = _; rw [bs_append, bs_append]; rfl
  clear hr f1 f2 f3
  rw [← HE.out]
  go_enter Try.func92, Try.ntmps92
  go_wp2_with fail
  refine (N1 _ (HR.out.alloc _).r1).mono ?_
  rintro e w1 ⟨rfl, k1⟩
  have K1 : Hid (Kept Nil w w1) := ((Kept.refl _ _).alloc _).trans k1
  have X1 := k1.block _ _ HB.out (fun x => x.elim)
  have q1 := blk_at X1 1 rfl
  go_wp2_with fail
  refine (N2 _ (HR.out.nil K1.out).r2).mono ?_
  rintro e w2 ⟨rfl, k2⟩
  have K2 : Hid (Kept Nil w w2) := K1.out.trans k2
  have X2 := k2.block _ _ X1 (fun x => x.elim)
  have q2 := blk_at X2 2 rfl
  go_wp2_with fail
  refine (N3 _ (HR.out.nil K2.out).r3).mono ?_
  rintro e w3 ⟨rfl, k3⟩
  go_wp2
  go_ret
  exact ⟨rfl, K2.out.trans k3⟩

set_option maxRecDepth 100000 in
set_option maxHeartbeats 1000000 in
theorem refPutConfig_any (B c1 c2 c3 : Nat) (a1 a2 a3 : Option Addr) (v n l : List Int) (w : World) (h : CfRows B w a1 a2 a3 v n l) (h1 : (v.length : Int) ≤ 9223372036854775807) (h2 : (n.length : Int) ≤ 9223372036854775807) (h3 : (l.length : Int) ≤ 9223372036854775807) :
    Calls Try.prog 43 #[.agg #[.slice a1 v.length c1, .slice a2 n.length c2, .slice a3 l.length c3]] w fun e w' => e = .returned (.tuple #[.string (bs (putCfg v n l).1), .int .i64 (putCfg v n l).2]) ∧ Kept Nil w w' := by
  have HR : Hid (CfRows B w a1 a2 a3 v n l) := h
  have HB : Hid (_) := blk_new w (.cells #[.slice a1 v.length c1, .slice a2 n.length c2, .slice a3 l.length c3] 24)
  have H1 := refIsConfig_any B c1 c2 c3 a1 a2 a3 v n l _ (h.alloc (.cells #[.slice a1 v.length c1, .slice a2 n.length c2, .slice a3 l.length c3] 24)) h1 h2 h3
  have HP : Hid (putCfg v n l = if isCfg v n l then (encCfg (natsOf v) (natsOf n) (natsOf l), 0) else ([], 8)) := rfl
  rw [HP.out]
  clear h h1 h2 h3
  cases hq : isCfg v n l with
  | false =>
    rw [hq] at H1
    clear hq
    simp only [Bool.false_eq_true, if_false]
    go_enter Try.func43, Try.ntmps43
    go_wp2_with fail
    refine H1.mono ?_
    rintro e w1 ⟨rfl, k1⟩
    go_wp2
    go_ret2
    exact ⟨rfl, ((Kept.refl _ _).alloc _).trans k1⟩
  | true =>
    obtain ⟨r1, r2, r3⟩ := isCfg_facts hq
    obtain ⟨e1, f1, _⟩ := rise_few r1
    obtain ⟨e2, f2, _⟩ := rise_few r2
    obtain ⟨e3, f3, _⟩ := rise_few r3
    have H2 := fun w' (hk : Kept Nil w w') => refConfig_any B c1 c2 c3 a1 a2 a3 (natsOf v) (natsOf n) (natsOf l) w' (by rw [e1, e2, e3]; exact HR.out.nil hk) f1 f2 f3
    rw [natsOf_len, natsOf_len, natsOf_len] at H2
    rw [hq] at H1
    simp only [if_true]
    clear hq r1 r2 r3 e1 e2 e3 f1 f2 f3
    generalize encCfg (natsOf v) (natsOf n) (natsOf l) = r at H2 ⊢
    go_enter Try.func43, Try.ntmps43
    go_wp2_with fail
    refine H1.mono ?_
    rintro e w1 ⟨rfl, k1⟩
    have K1 : Hid (Kept Nil w w1) := ((Kept.refl _ _).alloc _).trans k1
    have X1 := k1.block _ _ HB.out (fun x => x.elim)
    have q0 := blk_at X1 0 rfl
    have q1 := blk_at X1 1 rfl
    have q2 := blk_at X1 2 rfl
    go_wp2_with fail
    refine (H2 _ K1.out).mono ?_
    rintro e w2 ⟨rfl, k2⟩
    go_wp2
    go_ret2
    exact ⟨rfl, K1.out.trans k2⟩

end Go.Proofs.Ytijklginabipgaa

/-
  Rows copied (the law's ints and conf), and held against each other (the document's SameInts and SameConfig).
-/
namespace Go.Proofs.Ytijklginabipgaa
open Go.RowKit

def intCells (zs : List Int) : List Value := zs.map fun z => Value.int .i64 z
theorem add_at (g j : Nat) : (⟨g, 0, none⟩ : Addr).add j = ⟨g, j, none⟩ := by unfold Addr.add; split <;> simp_all

theorem src_row {B c : Nat} {w : World} {ao : Option Addr} {zs : List Int} (h : IntRow B w ao zs) (hn : ao = none → c = 0 ∨ True) : Src Try.prog 1 22 (.slice ao zs.length c) zs.length (intCells zs) w := by
  have _ := hn
  cases ao with
  | none =>
    have hz : zs = [] := by
      cases zs with
      | nil => rfl
      | cons z t =>
        obtain ⟨a, ha, _⟩ := h 0 (by simp)
        cases ha
    subst hz
    exact Src.ofNil w Try.underlying22 c
  | some a =>
    refine Src.ofSlice w Try.underlying22 a zs.length c (intCells zs) (by simp [intCells]) ?_ ?_
    · intro j u hj
      have hj' : j < zs.length := by
        have := (List.getElem?_eq_some_iff.1 hj).1
        simpa [intCells] using this
      obtain ⟨a', ha, _, hc⟩ := h j hj'
      simp only [Option.some.injEq] at ha
      subst ha
      rw [hc]
      simpa [intCells, hj'] using hj
    · intro u hu
      obtain ⟨_, _, rfl⟩ := List.mem_map.1 hu
      rfl

theorem row_own {B n c : Nat} {w : World} {ao : Option Addr} {zs rest : List Int} (h : w.ownsRow B 3 1 (.slice ao n c) n (intCells (zs ++ rest))) : IntRow w.heap.size w ao zs := by
  intro j hj
  rcases h.2 with ⟨_, h0⟩ | ⟨g, cap, cur, hv, hB, hg, _⟩
  · have := h.1
    simp [intCells] at this
    omega
  · simp only [Value.slice.injEq, true_and] at hv
    obtain ⟨rfl, rfl⟩ := hv
    refine ⟨⟨g, 0, none⟩, rfl, lt_of_block hg, ?_⟩
    have hlen := h.1
    simp only [intCells, List.length_map, List.length_append, Nat.mul_one] at hlen
    rw [add_at, World.ownsRow.cellAt h j (by omega)]
    have hj2 : j < (zs.map fun z => Value.int .i64 z).length := by simpa using hj
    rw [intCells, List.map_append, List.getElem?_append_left hj2]
    simp [hj]

theorem own_cap {B n c : Nat} {w : World} {ao : Option Addr} {xs : List Value} (h : w.ownsRow B 3 1 (.slice ao (n + 1) c) (n + 1) xs) : ∃ g, ao = some ⟨g, 0, none⟩ ∧ n + 1 ≤ c := by
  rcases h.2 with ⟨_, h0⟩ | ⟨g, cap, cur, hv, _, _, hc, _⟩
  · omega
  · simp only [Value.slice.injEq, true_and] at hv
    obtain ⟨rfl, rfl⟩ := hv
    exact ⟨g, rfl, hc⟩

set_option maxRecDepth 100000 in
set_option maxHeartbeats 1000000 in
theorem ints_any (B cap : Nat) (ao : Option Addr) (zs : List Int) (w : World) (h : IntRow B w ao zs) (hl : (zs.length + 1) * 8 ≤ 140737488355328) :
    Calls Try.prog 9 #[.slice ao zs.length cap] w fun e w' => ∃ g c, e = .returned (.slice (some ⟨g, 0, none⟩) zs.length c) ∧ w'.ownsRow w.heap.size 3 1 (.slice (some ⟨g, 0, none⟩) (zs.length + 1) c) (zs.length + 1) (intCells (zs ++ [99])) ∧ Kept Nil w w' := by
  obtain ⟨i0, hi, hz0, hz1, hz2⟩ := info_parts Try.infoInt
  have HS : Hid (Src Try.prog 1 22 (.slice ao zs.length cap) zs.length (intCells zs) w) := src_row h (fun _ => .inr trivial)
  have HL : Hid ((0 + zs.length ≤ maxLen ∧ (0 + zs.length) * 8 ≤ 140737488355328) ∧ (zs.length + 1 ≤ maxLen ∧ (zs.length + 1) * 8 ≤ 140737488355328)) := by
    refine ⟨⟨?_, ?_⟩, ⟨?_, ?_⟩⟩ <;> (unfold maxLen at *; omega)
  have hl' : (zs.length : Int) ≤ 17592186044415 := by omega
  clear h hl
  go_enter Try.func9, Try.ntmps9
  have tA : True := trivial
  go_wp2_with (first | (at_builtin; have _t := tA; clear _t tA; go_must (refine wpList_append_src _ rfl _ _ 22 22 rfl w.heap.size 3 i0 (.int .i64 0) 1 8 Try.underlying22 hi hz0 hz1 hz2 rfl _ 0 [] rfl (World.ownsRow_nil _ _ _ _) (.slice ao zs.length cap) zs.length (intCells zs) rfl HS.out HL.out.1.1 HL.out.1.2 (Nat.le_refl _) ?_); intro a1 c1 w1 ho1 hg1; rw [Nat.zero_add, List.nil_append] at ho1; have HK1 : Hid (Kept Nil w w1) := (Kept.refl _ _).grown hg1 (fun k e => by cases e); clear hg1) | (at_builtin; go_must (refine wpList_append_src _ rfl _ _ 22 22 rfl w.heap.size 3 i0 (.int .i64 0) 1 8 Try.underlying22 hi hz0 hz1 hz2 rfl _ _ _ rfl (ho1.alloc _) (.slice (some ⟨w1.heap.size, 0, none⟩) 1 1) 1 [.int .i64 99] rfl (src_int _) HL.out.2.1 HL.out.2.2 (le_alloc HK1.out.size _) ?_); intro a2 c2 w2 ho2 hg2; have HK2 : Hid (Kept Nil w w2) := (HK1.out.alloc _).grown hg2 (own_row ho1); have HO2 : Hid _ := ho2; obtain ⟨g, rfl, hcap⟩ := own_cap ho2; clear hg2 ho2))
  go_ret
  refine ⟨g, c2, rfl, ?_, HK2.out⟩
  have e : intCells (zs ++ [99]) = intCells zs ++ [.int .i64 99] := by simp [intCells]
  rw [e]
  exact HO2.out

set_option maxRecDepth 100000 in
set_option maxHeartbeats 1000000 in
theorem refSameInts_any (B1 B2 c1 c2 : Nat) (a1 a2 : Option Addr) (ns ms : List Int) (w : World) (h1 : IntRow B1 w a1 ns) (h2 : IntRow B2 w a2 ms) (hl1 : (ns.length : Int) ≤ 9223372036854775807) (hl2 : (ms.length : Int) ≤ 9223372036854775807) :
    Calls Try.prog 18 #[.slice a1 ns.length c1, .slice a2 ms.length c2] w fun e w' => e = .returned (.bool (decide (ns = ms))) ∧ Kept Nil w w' := by
  by_cases hlen : ns.length = ms.length
  · have H1 : Hid (IntRow B1 w a1 ns) := h1
    have H2 : Hid (IntRow B2 w a2 ms) := h2
    clear h1 h2
    have hl : (ns.length : Int) = ms.length := by omega
    go_enter Try.func18, Try.ntmps18
    go_wp2
    go_loopw [5] (fun i wr => ∃ k : Nat, k ≤ ns.length ∧ i = .int .i64 k ∧ Hid (ns.take k = ms.take k) ∧ Hid (Kept Nil w wr)) (fun i _ => ns.length - (intOf i).toNat)
    case atStart => exact ⟨0, Nat.zero_le _, rfl, rfl, Kept.refl _ _⟩
    case round =>
      obtain ⟨k, hk, rfl, HT, HK⟩ := hrel
      by_cases hlt : k < ns.length
      · have hlt2 : k < ms.length := by omega
        obtain ⟨x1, rfl, _, e1⟩ := (H1.out.nil HK.out) k hlt
        obtain ⟨x2, rfl, _, e2⟩ := (H2.out.nil HK.out) k hlt2
        have HX : Hid (ns[k] = ms[k] → ns.take (k + 1) = ms.take (k + 1)) := fun h => by
          rw [List.take_succ_eq_append_getElem hlt, List.take_succ_eq_append_getElem hlt2, HT.out, h]
        have HY : Hid (ns[k] ≠ ms[k] → ns ≠ ms) := fun h e => by subst e; exact h rfl
        generalize ns[k] = x at e1 HX HY
        generalize ms[k] = y at e2 HX HY
        by_cases hxy : x = y
        · subst hxy
          have HT2 : Hid _ := HX.out rfl
          clear HX HY
          go_wp2
          go_region
          go_wp2
          go_roundw
          case rel => exact ⟨k + 1, by omega, by go_num, HT2, HK.out.drew⟩
          case measure => simp [intOf]; omega
        · have HN : Hid (decide (ns = ms) = false) := decide_eq_false (HY.out hxy)
          have hxy' : (x != y) = true := by simpa using hxy
          clear HX HY
          go_wp2
          go_region
          go_wp2
          go_ret
          rw [HN.out]
          exact ⟨rfl, HK.out.drew⟩
      · have HN : Hid (decide (ns = ms) = true) := by
          refine decide_eq_true ?_
          have := HT.out
          rwa [List.take_of_length_le (by omega), List.take_of_length_le (by omega)] at this
        go_wp2
        go_ret
        rw [HN.out]
        exact ⟨rfl, HK.out⟩
  · have HN : Hid (decide (ns = ms) = false) := decide_eq_false (fun e => hlen (by rw [e]))
    have hl : ((ns.length : Int) != (ms.length : Int)) = true := by simp; omega
    clear h1 h2 hlen
    go_enter Try.func18, Try.ntmps18
    go_wp2
    go_ret
    rw [HN.out]
    exact ⟨rfl, Kept.refl _ _⟩

set_option maxRecDepth 100000 in
set_option maxHeartbeats 1000000 in
/-- Two that have the same rows are the same. -/
theorem refSameConfig_yes (B1 B2 c1 c2 c3 d1 d2 d3 : Nat) (a1 a2 a3 b1 b2 b3 : Option Addr) (v n l : List Int) (w : World) (h1 : CfRows B1 w a1 a2 a3 v n l) (h2 : CfRows B2 w b1 b2 b3 v n l) (hl1 : (v.length : Int) ≤ 9223372036854775807) (hl2 : (n.length : Int) ≤ 9223372036854775807) (hl3 : (l.length : Int) ≤ 9223372036854775807) :
    Calls Try.prog 14 #[.agg #[.slice a1 v.length c1, .slice a2 n.length c2, .slice a3 l.length c3], .agg #[.slice b1 v.length d1, .slice b2 n.length d2, .slice b3 l.length d3]] w fun e w' => e = .returned (.bool true) ∧ Kept Nil w w' := by
  have S1 := fun w' (hk : Kept Nil w w') => refSameInts_any B1 B2 c1 d1 a1 b1 v v w' (h1.r1.nil hk) (h2.r1.nil hk) hl1 hl1
  have S2 := fun w' (hk : Kept Nil w w') => refSameInts_any B1 B2 c2 d2 a2 b2 n n w' (h1.r2.nil hk) (h2.r2.nil hk) hl2 hl2
  have S3 := fun w' (hk : Kept Nil w w') => refSameInts_any B1 B2 c3 d3 a3 b3 l l w' (h1.r3.nil hk) (h2.r3.nil hk) hl3 hl3
  rw [decide_eq_true rfl] at S1 S2 S3
  have HA : Hid (_) := blk_past (blk_new w (.cells #[.slice a1 v.length c1, .slice a2 n.length c2, .slice a3 l.length c3] 24)) (.cells #[.slice b1 v.length d1, .slice b2 n.length d2, .slice b3 l.length d3] 24)
  have HB : Hid (((w.alloc (.cells #[.slice a1 v.length c1, .slice a2 n.length c2, .slice a3 l.length c3] 24)).alloc (.cells #[.slice b1 v.length d1, .slice b2 n.length d2, .slice b3 l.length d3] 24)).heap[w.heap.size + 1]? = some (.cells #[.slice b1 v.length d1, .slice b2 n.length d2, .slice b3 l.length d3] 24 (0, 0))) := by
    have := blk_new (w.alloc (.cells #[.slice a1 v.length c1, .slice a2 n.length c2, .slice a3 l.length c3] 24)) (.cells #[.slice b1 v.length d1, .slice b2 n.length d2, .slice b3 l.length d3] 24)
    rwa [show (w.alloc (.cells #[.slice a1 v.length c1, .slice a2 n.length c2, .slice a3 l.length c3] 24)).heap.size = w.heap.size + 1 by simp] at this
  clear h1 h2 hl1 hl2 hl3
  go_enter Try.func14, Try.ntmps14
  go_wp2_with fail
  refine (S1 _ (((Kept.refl _ _).alloc _).alloc _)).mono ?_
  rintro e w1 ⟨rfl, k1⟩
  have K1 : Hid (Kept Nil w w1) := (((Kept.refl _ _).alloc _).alloc _).trans k1
  have A1 : Hid _ := k1.block _ _ HA.out (fun x => x.elim)
  have B1 : Hid _ := k1.block _ _ HB.out (fun x => x.elim)
  have p1 := blk_at A1.out 1 rfl
  have r1 := blk_at B1.out 1 rfl
  go_wp2_with fail
  refine (S2 _ K1.out).mono ?_
  rintro e w2 ⟨rfl, k2⟩
  have K2 : Hid (Kept Nil w w2) := K1.out.trans k2
  have A2 : Hid _ := k2.block _ _ A1.out (fun x => x.elim)
  have B2 : Hid _ := k2.block _ _ B1.out (fun x => x.elim)
  have p2 := blk_at A2.out 2 rfl
  have r2 := blk_at B2.out 2 rfl
  go_wp2_with fail
  refine (S3 _ K2.out).mono ?_
  rintro e w3 ⟨rfl, k3⟩
  go_wp2
  go_ret
  exact ⟨rfl, K2.out.trans k3⟩

end Go.Proofs.Ytijklginabipgaa

/-
  Which snapshots may be, by the program and by the document's answer; a snapshot written by either.
-/
namespace Go.Proofs.Ytijklginabipgaa
open Go.RowKit

def snOk (ix tm : Int) (v n l : List Int) (dt : List UInt8) : Bool := isCnt ix && isCnt tm && isCfg v n l && decide (dt.length ≤ 8192)

set_option maxRecDepth 100000 in
set_option maxHeartbeats 2000000 in
theorem isSnapshot_any (ix tm : Int) (B c1 c2 c3 : Nat) (a1 a2 a3 : Option Addr) (v n l : List Int) (dt : List UInt8) (w : World) (hr : CfRows B w a1 a2 a3 v n l) (h1 : (v.length : Int) ≤ 9223372036854775807) (h2 : (n.length : Int) ≤ 9223372036854775807) (h3 : (l.length : Int) ≤ 9223372036854775807) (hd : dt.length ≤ maxLen) :
    Calls Try.prog 102 #[.agg #[.int .i64 ix, .int .i64 tm, .slice a1 v.length c1, .slice a2 n.length c2, .slice a3 l.length c3, .string (bs dt)]] w fun e w' => e = .returned (.bool (snOk ix tm v n l dt)) ∧ Kept Nil w w' := by
  have HN := areCounts_any (w.heap.size + 1) 2 [ix, tm] _ (ints2 w (.cells #[.int .i64 ix, .int .i64 tm, .slice a1 v.length c1, .slice a2 n.length c2, .slice a3 l.length c3, .string (bs dt)] 61) ix tm) (by simp)
  have ef : fromTo 1 [ix, tm] = (isCnt ix && isCnt tm) := by simp [fromTo, isCnt]
  rw [ef] at HN
  have VA := valid_any B c1 c2 c3 a1 a2 a3 v n l _ ((hr.alloc (.cells #[.int .i64 ix, .int .i64 tm, .slice a1 v.length c1, .slice a2 n.length c2, .slice a3 l.length c3, .string (bs dt)] 61)).alloc (.cells #[.int .i64 ix, .int .i64 tm] 3)) h1 h2 h3
  have HB : Hid (_) := blk_past (blk_new w (.cells #[.int .i64 ix, .int .i64 tm, .slice a1 v.length c1, .slice a2 n.length c2, .slice a3 l.length c3, .string (bs dt)] 61)) (.cells #[.int .i64 ix, .int .i64 tm] 3)
  have hsz := bs_size dt
  have hd' : (dt.length : Int) ≤ 9223372036854775807 := by unfold maxLen at hd; omega
  have HS : Hid (snOk ix tm v n l dt = ((isCnt ix && isCnt tm) && isCfg v n l && decide (dt.length ≤ 8192))) := rfl
  rw [HS.out]
  generalize (isCnt ix && isCnt tm) = b1 at *
  generalize isCfg v n l = b2 at *
  clear hr h1 h2 h3 hd ef
  cases b1 with
  | false =>
    simp only [Bool.false_and]
    go_enter Try.func102, Try.ntmps102
    go_wp2_with fail
    refine HN.mono ?_
    rintro e w1 ⟨rfl, rfl⟩
    go_wp2
    go_ret
    exact ⟨rfl, ((Kept.refl _ _).alloc _).alloc _⟩
  | true =>
    cases b2 with
    | false =>
      simp only [Bool.and_false, Bool.false_and]
      go_enter Try.func102, Try.ntmps102
      go_wp2_with fail
      refine HN.mono ?_
      rintro e w1 ⟨rfl, rfl⟩
      go_wp2_with fail
      refine VA.mono ?_
      rintro e w2 ⟨rfl, k2⟩
      go_wp2
      go_ret
      exact ⟨rfl, (((Kept.refl _ _).alloc _).alloc _).trans k2⟩
    | true =>
      simp only [Bool.true_and]
      by_cases h : dt.length ≤ 8192
      · rw [decide_eq_true h]
        have h' : (dt.length : Int) ≤ 8192 := by omega
        clear h
        go_enter Try.func102, Try.ntmps102
        go_wp2_with fail
        refine HN.mono ?_
        rintro e w1 ⟨rfl, rfl⟩
        go_wp2_with fail
        refine VA.mono ?_
        rintro e w2 ⟨rfl, k2⟩
        have q5 := blk_at (k2.block _ _ HB.out (fun x => x.elim)) 5 rfl
        go_wp2
        go_ret
        exact ⟨rfl, (((Kept.refl _ _).alloc _).alloc _).trans k2⟩
      · rw [decide_eq_false h]
        have h' : ¬ (dt.length : Int) ≤ 8192 := by omega
        clear h
        go_enter Try.func102, Try.ntmps102
        go_wp2_with fail
        refine HN.mono ?_
        rintro e w1 ⟨rfl, rfl⟩
        go_wp2_with fail
        refine VA.mono ?_
        rintro e w2 ⟨rfl, k2⟩
        have q5 := blk_at (k2.block _ _ HB.out (fun x => x.elim)) 5 rfl
        go_wp2
        go_ret
        first | exact ⟨rfl, (((Kept.refl _ _).alloc _).alloc _).trans k2⟩ | exact ⟨ret_bool (decide_eq_false (by omega)), (((Kept.refl _ _).alloc _).alloc _).trans k2⟩

set_option maxRecDepth 100000 in
set_option maxHeartbeats 2000000 in
theorem refIsSnapshot_any (ix tm : Int) (B c1 c2 c3 : Nat) (a1 a2 a3 : Option Addr) (v n l : List Int) (dt : List UInt8) (w : World) (hr : CfRows B w a1 a2 a3 v n l) (h1 : (v.length : Int) ≤ 9223372036854775807) (h2 : (n.length : Int) ≤ 9223372036854775807) (h3 : (l.length : Int) ≤ 9223372036854775807) (hd : dt.length ≤ maxLen) :
    Calls Try.prog 96 #[.agg #[.int .i64 ix, .int .i64 tm, .slice a1 v.length c1, .slice a2 n.length c2, .slice a3 l.length c3, .string (bs dt)]] w fun e w' => e = .returned (.bool (snOk ix tm v n l dt)) ∧ Kept Nil w w' := by
  have I1 := fun w => refCnt_any ix w
  have I2 := fun w => refCnt_any tm w
  have VA := refIsConfig_any B c1 c2 c3 a1 a2 a3 v n l _ (hr.alloc (.cells #[.int .i64 ix, .int .i64 tm, .slice a1 v.length c1, .slice a2 n.length c2, .slice a3 l.length c3, .string (bs dt)] 61)) h1 h2 h3
  have HB : Hid (_) := blk_new w (.cells #[.int .i64 ix, .int .i64 tm, .slice a1 v.length c1, .slice a2 n.length c2, .slice a3 l.length c3, .string (bs dt)] 61)
  have hsz := bs_size dt
  have hd' : (dt.length : Int) ≤ 9223372036854775807 := by unfold maxLen at hd; omega
  have HS : Hid (snOk ix tm v n l dt = ((isCnt ix && isCnt tm) && isCfg v n l && decide (dt.length ≤ 8192))) := rfl
  rw [HS.out]
  generalize isCnt ix = d1 at *
  generalize isCnt tm = d2 at *
  generalize isCfg v n l = b2 at *
  clear hr h1 h2 h3 hd
  go_enter Try.func96, Try.ntmps96
  go_wp2_with fail
  refine (I1 _).mono ?_
  rintro e w1 ⟨rfl, rfl⟩
  go_wp2_with fail
  refine (I2 _).mono ?_
  rintro e w1 ⟨rfl, rfl⟩
  go_wp2_with fail
  refine VA.mono ?_
  rintro e w2 ⟨rfl, k2⟩
  have q5 := blk_at (k2.block _ _ HB.out (fun x => x.elim)) 5 rfl
  have K2 : Hid (Kept Nil w w2) := ((Kept.refl _ _).alloc _).trans k2
  clear k2
  cases d1 with
  | false =>
    go_wp2
    go_ret
    exact ⟨rfl, K2.out⟩
  | true =>
    cases d2 with
    | false =>
      go_wp2
      go_ret
      exact ⟨rfl, K2.out⟩
    | true =>
      cases b2 with
      | false =>
        go_wp2
        go_ret
        exact ⟨rfl, K2.out⟩
      | true =>
        by_cases h : dt.length ≤ 8192
        · have HD : Hid (decide (dt.length ≤ 8192) = true) := decide_eq_true h
          have h' : (dt.length : Int) ≤ 8192 := by omega
          clear h
          go_wp2
          go_ret
          rw [HD.out]
          exact ⟨rfl, K2.out⟩
        · have HD : Hid (decide (dt.length ≤ 8192) = false) := decide_eq_false h
          have h' : ¬ (dt.length : Int) ≤ 8192 := by omega
          clear h
          go_wp2
          go_ret
          rw [HD.out]
          first | exact ⟨rfl, K2.out⟩ | exact ⟨ret_bool (by simp; omega), K2.out⟩

/-! ### written -/
def encSnap (ix tm : Nat) (v n l : List Nat) (dt : List UInt8) : List UInt8 := encAll [ix, tm] ++ encCfg v n l ++ encText dt
theorem Few.cfg {v n l : List Nat} (f1 : Few v) (f2 : Few n) (f3 : Few l) : (encCfg v n l).length ≤ 18018 := by
  have := f1.enc
  have := f2.enc
  have := f3.enc
  simp only [encCfg, List.length_append]
  omega

set_option maxRecDepth 100000 in
set_option maxHeartbeats 1000000 in
theorem wSnapshot_any (b B ix tm c1 c2 c3 : Nat) (a1 a2 a3 : Option Addr) (v n l : List Nat) (dt t : List UInt8) (w : World) (h : WInv b w t) (hr : CfRows B w a1 a2 a3 (intsOf v) (intsOf n) (intsOf l)) (hB : B ≤ b) (f1 : Few v) (f2 : Few n) (f3 : Few l)
    (g1 : ix ≤ 1099511627775) (g2 : tm ≤ 1099511627775) (g3 : dt.length ≤ 8192) (hl : t.length ≤ 1000000000) :
    Calls Try.prog 103 #[.pointer (some ⟨b, 0, none⟩), .agg #[.int .i64 ix, .int .i64 tm, .slice a1 v.length c1, .slice a2 n.length c2, .slice a3 l.length c3, .string (bs dt)]] w fun e w' => e = .returned (.tuple #[]) ∧ WInv b w' (t ++ encSnap ix tm v n l dt) ∧ Kept (Wr b) w w' := by
  have hlt := h.lt
  have HX : Hid (¬ Wr b w.heap.size (.cells #[.int .i64 ix, .int .i64 tm, .slice a1 v.length c1, .slice a2 n.length c2, .slice a3 l.length c3, .string (bs dt)] 61)) := not_wr (Nat.ne_of_gt hlt) (by decide)
  have HB : Hid (_) := blk_past (blk_new w (.cells #[.int .i64 ix, .int .i64 tm, .slice a1 v.length c1, .slice a2 n.length c2, .slice a3 l.length c3, .string (bs dt)] 61)) (.cells #[.int .i64 ix, .int .i64 tm] 3)
  have hg := blk_new (w.alloc (.cells #[.int .i64 ix, .int .i64 tm, .slice a1 v.length c1, .slice a2 n.length c2, .slice a3 l.length c3, .string (bs dt)] 61)) (.cells #[.int .i64 ix, .int .i64 tm] 3)
  rw [show (w.alloc (.cells #[.int .i64 ix, .int .i64 tm, .slice a1 v.length c1, .slice a2 n.length c2, .slice a3 l.length c3, .string (bs dt)] 61)).heap.size = w.heap.size + 1 by simp] at hg
  have hle : ∀ n ∈ [ix, tm], n ≤ 1099511627775 := by intro n hn'; simp at hn'; omega
  have H := wNumbers_any b (w.heap.size + 1) 2 _ _ [ix, tm] t _ ((h.alloc _).alloc _) hg (by omega) (ints2 w _ ix tm) hle (by simp) (by omega)
  have HL : Hid ((encAll [ix, tm]).length ≤ 12 ∧ t.length ≤ 1000000000 ∧ dt.length ≤ 8192 ∧ B ≤ b ∧ Few v ∧ Few n ∧ Few l) := by
    have := encAll_len [ix, tm] hle
    exact ⟨by simpa using this, hl, g3, hB, f1, f2, f3⟩
  have HR : Hid (CfRows B ((w.alloc (.cells #[.int .i64 ix, .int .i64 tm, .slice a1 v.length c1, .slice a2 n.length c2, .slice a3 l.length c3, .string (bs dt)] 61)).alloc (.cells #[.int .i64 ix, .int .i64 tm] 3)) a1 a2 a3 (intsOf v) (intsOf n) (intsOf l)) := (hr.alloc _).alloc _
  have HE : Hid (t ++ encSnap ix tm v n l dt = ((t ++ encAll [ix, tm]) ++ encCfg v n l) ++ encText dt) := by show _ = _; simp [encSnap]
  rw [HE.out]
  clear g1 g2 g3 hl hlt hg hle hr hB f1 f2 f3
  go_enter Try.func103, Try.ntmps103
  go_wp2_with fail
  refine H.mono ?_
  rintro e w1 ⟨rfl, i1, k1⟩
  have X1 : Hid _ := k1.block _ _ HB.out HX.out
  have q2 := blk_at X1.out 2 rfl
  have q3 := blk_at X1.out 3 rfl
  have q4 := blk_at X1.out 4 rfl
  have P2 := wConfig_any b B c1 c2 c3 a1 a2 a3 v n l _ w1 i1 (HR.out.kept k1 (fun _ _ h => not_below HL.out.2.2.2.1 h)) HL.out.2.2.2.1 HL.out.2.2.2.2.1 HL.out.2.2.2.2.2.1 HL.out.2.2.2.2.2.2 (by have := HL.out; simp only [List.length_append]; omega)
  go_wp2_with fail
  refine P2.mono ?_
  rintro e w2 ⟨rfl, i2, k2⟩
  have q5 := blk_at (k2.block _ _ X1.out HX.out) 5 rfl
  go_wp2_with fail
  refine (wText_any b dt _ w2 i2 (by have := HL.out.2.2.1; omega) (by have := HL.out; have := Few.cfg HL.out.2.2.2.2.1 HL.out.2.2.2.2.2.1 HL.out.2.2.2.2.2.2; simp only [List.length_append]; omega)).mono ?_
  rintro e w3 ⟨rfl, i3, k3⟩
  go_wp2
  go_end0
  exact ⟨rfl, i3, (((((Kept.refl _ _).alloc _).alloc _).trans k1).trans k2).trans k3⟩

set_option maxRecDepth 100000 in
set_option maxHeartbeats 1000000 in
theorem writeSnap_ok (ix tm c1 c2 c3 : Nat) (a1 a2 a3 : Option Addr) (v n l : List Nat) (dt : List UInt8) (w : World) (hr : CfRows w.heap.size w a1 a2 a3 (intsOf v) (intsOf n) (intsOf l)) (f1 : Few v) (f2 : Few n) (f3 : Few l) (g1 : ix ≤ 1099511627775) (g2 : tm ≤ 1099511627775) (g3 : dt.length ≤ 8192) (c : Int) :
    Calls Try.prog 101 #[.agg #[.int .i64 ix, .int .i64 tm, .slice a1 v.length c1, .slice a2 n.length c2, .slice a3 l.length c3, .string (bs dt)], .bool true, .int .i64 c, .func (.func 103) #[] #[]] w fun e w' => e = .returned (.tuple #[.string (bs (encSnap ix tm v n l dt)), .int .i64 0]) ∧ Kept Nil w w' := by
  have hw := winv_new (w.alloc (.cells #[.int .i64 ix, .int .i64 tm, .slice a1 v.length c1, .slice a2 n.length c2, .slice a3 l.length c3, .string (bs dt)] 61))
  have es : (w.alloc (.cells #[.int .i64 ix, .int .i64 tm, .slice a1 v.length c1, .slice a2 n.length c2, .slice a3 l.length c3, .string (bs dt)] 61)).heap.size = w.heap.size + 1 := by simp
  rw [es] at hw
  have H1 := wSnapshot_any (w.heap.size + 1) w.heap.size ix tm c1 c2 c3 a1 a2 a3 v n l dt [] _ hw ((hr.alloc _).alloc _) (by omega) f1 f2 f3 g1 g2 g3 (by simp)
  simp only [List.nil_append] at H1
  clear hw es hr f1 f2 f3 g1 g2 g3
  go_enter Try.func101, Try.ntmps101
  go_wp2_with fail
  refine H1.mono ?_
  rintro e w1 ⟨rfl, ⟨ao, c', hb, ho⟩, hk⟩
  have h0 := blk_at hb 0 rfl
  have hcv := conv_own ho
  go_wp2
  go_ret2
  exact ⟨rfl, hk.belowWr⟩

set_option maxRecDepth 100000 in
theorem writeSnap_no (cs : Array Value) (w : World) (c : Int) (f : Value) :
    Calls Try.prog 101 #[.agg cs, .bool false, .int .i64 c, f] w fun e w' => e = .returned (.tuple #[.string (bs []), .int .i64 c]) ∧ Kept Nil w w' := by
  go_enter Try.func101, Try.ntmps101
  go_wp2
  go_ret2
  exact ⟨rfl, (Kept.refl _ _).alloc _⟩

def putSnap (ix tm : Int) (v n l : List Int) (dt : List UInt8) : List UInt8 × Int := if snOk ix tm v n l dt then (encSnap ix.toNat tm.toNat (natsOf v) (natsOf n) (natsOf l) dt, 0) else ([], 6)
theorem snOk_facts {ix tm : Int} {v n l : List Int} {dt : List UInt8} (h : snOk ix tm v n l dt = true) : isCnt ix = true ∧ isCnt tm = true ∧ isCfg v n l = true ∧ dt.length ≤ 8192 := by
  simp only [snOk, Bool.and_eq_true, decide_eq_true_eq] at h
  exact ⟨h.1.1.1, h.1.1.2, h.1.2, h.2⟩

theorem writeSnap_any (ix tm : Int) (c1 c2 c3 : Nat) (a1 a2 a3 : Option Addr) (v n l : List Int) (dt : List UInt8) (w : World) (hr : CfRows w.heap.size w a1 a2 a3 v n l) :
    Calls Try.prog 101 #[.agg #[.int .i64 ix, .int .i64 tm, .slice a1 v.length c1, .slice a2 n.length c2, .slice a3 l.length c3, .string (bs dt)], .bool (snOk ix tm v n l dt), .int .i64 6, .func (.func 103) #[] #[]] w fun e w' => e = .returned (.tuple #[.string (bs (putSnap ix tm v n l dt).1), .int .i64 (putSnap ix tm v n l dt).2]) ∧ Kept Nil w w' := by
  unfold putSnap
  cases hq : snOk ix tm v n l dt with
  | false => exact writeSnap_no _ w 6 _
  | true =>
    obtain ⟨q1, q2, q3, q4⟩ := snOk_facts hq
    obtain ⟨r1, r2, r3⟩ := isCfg_facts q3
    obtain ⟨e1, f1, _⟩ := rise_few r1
    obtain ⟨e2, f2, _⟩ := rise_few r2
    obtain ⟨e3, f3, _⟩ := rise_few r3
    have b1 := isCnt_nat q1
    have b2 := isCnt_nat q2
    have H := writeSnap_ok ix.toNat tm.toNat c1 c2 c3 a1 a2 a3 (natsOf v) (natsOf n) (natsOf l) dt w (by rw [e1, e2, e3]; exact hr) f1 f2 f3 b1.2 b2.2 q4 6
    rw [natsOf_len, natsOf_len, natsOf_len, b1.1, b2.1] at H
    exact H

set_option maxRecDepth 100000 in
set_option maxHeartbeats 1000000 in
theorem putSnapshot_any (ix tm : Int) (B c1 c2 c3 : Nat) (a1 a2 a3 : Option Addr) (v n l : List Int) (dt : List UInt8) (w : World) (h : CfRows B w a1 a2 a3 v n l) (h1 : (v.length : Int) ≤ 9223372036854775807) (h2 : (n.length : Int) ≤ 9223372036854775807) (h3 : (l.length : Int) ≤ 9223372036854775807) (hd : dt.length ≤ maxLen) :
    Calls Try.prog 48 #[.agg #[.int .i64 ix, .int .i64 tm, .slice a1 v.length c1, .slice a2 n.length c2, .slice a3 l.length c3, .string (bs dt)]] w fun e w' => e = .returned (.tuple #[.string (bs (putSnap ix tm v n l dt).1), .int .i64 (putSnap ix tm v n l dt).2]) ∧ Kept Nil w w' := by
  have HR : Hid (CfRows B w a1 a2 a3 v n l) := h
  have H1 := fun w' (hk : Kept Nil w w') => isSnapshot_any ix tm B c1 c2 c3 a1 a2 a3 v n l dt w' (HR.out.nil hk) h1 h2 h3 hd
  have H2 := fun w' (hk : Kept Nil w w') => writeSnap_any ix tm c1 c2 c3 a1 a2 a3 v n l dt w' (HR.out.nil hk).full
  generalize snOk ix tm v n l dt = okb at H1 H2
  generalize putSnap ix tm v n l dt = pr at H2 ⊢
  obtain ⟨p1, p2⟩ := pr
  simp only at H2 ⊢
  clear h h1 h2 h3 hd
  have HB : Hid (_) := blk_new w (.cells #[.int .i64 ix, .int .i64 tm, .slice a1 v.length c1, .slice a2 n.length c2, .slice a3 l.length c3, .string (bs dt)] 61)
  have HK : Hid (Kept Nil w (w.alloc (.cells #[.int .i64 ix, .int .i64 tm, .slice a1 v.length c1, .slice a2 n.length c2, .slice a3 l.length c3, .string (bs dt)] 61)).drew) := ((Kept.refl _ _).alloc _).drew
  go_enter Try.func48, Try.ntmps48
  go_wp2
  go_region_with (first | (go_at_call 102; go_must (refine (H1 _ HK.out).mono ?_); rintro e w1 ⟨rfl, k1⟩; have X1 := k1.block _ _ HB.out (fun x => x.elim); have q0 := blk_at X1 0 rfl; have q1 := blk_at X1 1 rfl; have q2 := blk_at X1 2 rfl; have q3 := blk_at X1 3 rfl; have q4 := blk_at X1 4 rfl; have q5 := blk_at X1 5 rfl; have HK1 : Hid (Kept Nil w w1) := HK.out.trans k1; clear X1) | (go_at_call 101; go_must (refine (H2 _ HK1.out).mono ?_); rintro e w2 ⟨rfl, k2⟩))
  all_goals go_wp2
  all_goals go_ret2
  all_goals exact ⟨rfl, HK1.out.trans k2⟩

/-! ### the document's -/
set_option maxRecDepth 100000 in
set_option maxHeartbeats 1000000 in
theorem refSnapshot_any (B ix tm c1 c2 c3 : Nat) (a1 a2 a3 : Option Addr) (v n l : List Nat) (dt : List UInt8) (w : World) (hr : CfRows B w a1 a2 a3 (intsOf v) (intsOf n) (intsOf l)) (f1 : Few v) (f2 : Few n) (f3 : Few l) (g1 : ix ≤ 1099511627775) (g2 : tm ≤ 1099511627775) (g3 : dt.length ≤ 8192) :
    Calls Try.prog 97 #[.agg #[.int .i64 ix, .int .i64 tm, .slice a1 v.length c1, .slice a2 n.length c2, .slice a3 l.length c3, .string (bs dt)]] w fun e w' => e = .returned (.string (bs (encSnap ix tm v n l dt))) ∧ Kept Nil w w' := by
  have HR : Hid (CfRows B w a1 a2 a3 (intsOf v) (intsOf n) (intsOf l)) := hr
  have HB : Hid (_) := blk_new w (.cells #[.int .i64 ix, .int .i64 tm, .slice a1 v.length c1, .slice a2 n.length c2, .slice a3 l.length c3, .string (bs dt)] 61)
  have N1 := refNum_any ix g1
  have N2 := refNum_any tm g2
  have N3 := fun w h => refConfig_any B c1 c2 c3 a1 a2 a3 v n l w h f1 f2 f3
  have N4 := fun w => refTextOf_any dt w (by omega)
  have z1 : (bs (enc ix)).size ≤ 6 := by rw [bs_size]; exact enc_len6 g1
  have z2 : (bs (enc tm)).size ≤ 6 := by rw [bs_size]; exact enc_len6 g2
  have z3 : (bs (encCfg v n l)).size ≤ 18018 := by rw [bs_size]; exact Few.cfg f1 f2 f3
  have z4 : (bs (encText dt)).size ≤ 8198 := by
    rw [bs_size]
    have := encText_len (l := dt) (by omega)
    omega
  have z5 : (bs (enc ix) ++ bs (enc tm)).size ≤ 12 := by rw [bs_append, bs_size, List.length_append]; rw [bs_size] at z1 z2; omega
  have z6 : (bs (enc ix) ++ bs (enc tm) ++ bs (encCfg v n l)).size ≤ 18030 := by rw [bs_append, bs_append, bs_size, List.length_append, List.length_append]; rw [bs_size] at z1 z2 z3; omega
  have HE : Hid (bs (enc ix) ++ bs (enc tm) ++ bs (encCfg v n l) ++ bs (encText dt) = bs (encSnap ix tm v n l dt)) := by show _ = _; rw [bs_append, bs_append, bs_append]; simp [encSnap, encAll]
  clear hr f1 f2 f3 g1 g2 g3
  rw [← HE.out]
  go_enter Try.func97, Try.ntmps97
  go_wp2_with fail
  refine (N1 _).mono ?_
  rintro e w1 ⟨rfl, k1⟩
  have K1 : Hid (Kept Nil w w1) := ((Kept.refl _ _).alloc _).trans k1
  have X1 := k1.block _ _ HB.out (fun x => x.elim)
  have q1 := blk_at X1 1 rfl
  go_wp2_with fail
  refine (N2 _).mono ?_
  rintro e w2 ⟨rfl, k2⟩
  have K2 : Hid (Kept Nil w w2) := K1.out.trans k2
  have X2 := k2.block _ _ X1 (fun x => x.elim)
  have q2 := blk_at X2 2 rfl
  have q3 := blk_at X2 3 rfl
  have q4 := blk_at X2 4 rfl
  go_wp2_with fail
  refine (N3 _ (HR.out.nil K2.out)).mono ?_
  rintro e w3 ⟨rfl, k3⟩
  have X3 := k3.block _ _ X2 (fun x => x.elim)
  have q5 := blk_at X3 5 rfl
  go_wp2_with fail
  refine (N4 _).mono ?_
  rintro e w4 ⟨rfl, k4⟩
  go_wp2
  go_ret
  exact ⟨rfl, (K2.out.trans k3).trans k4⟩

set_option maxRecDepth 100000 in
set_option maxHeartbeats 1000000 in
theorem refPutSnapshot_any (ix tm : Int) (B c1 c2 c3 : Nat) (a1 a2 a3 : Option Addr) (v n l : List Int) (dt : List UInt8) (w : World) (h : CfRows B w a1 a2 a3 v n l) (h1 : (v.length : Int) ≤ 9223372036854775807) (h2 : (n.length : Int) ≤ 9223372036854775807) (h3 : (l.length : Int) ≤ 9223372036854775807) (hd : dt.length ≤ maxLen) :
    Calls Try.prog 46 #[.agg #[.int .i64 ix, .int .i64 tm, .slice a1 v.length c1, .slice a2 n.length c2, .slice a3 l.length c3, .string (bs dt)]] w fun e w' => e = .returned (.tuple #[.string (bs (putSnap ix tm v n l dt).1), .int .i64 (putSnap ix tm v n l dt).2]) ∧ Kept Nil w w' := by
  have HR : Hid (CfRows B w a1 a2 a3 v n l) := h
  have HB : Hid (_) := blk_new w (.cells #[.int .i64 ix, .int .i64 tm, .slice a1 v.length c1, .slice a2 n.length c2, .slice a3 l.length c3, .string (bs dt)] 61)
  have H1 := refIsSnapshot_any ix tm B c1 c2 c3 a1 a2 a3 v n l dt _ (h.alloc (.cells #[.int .i64 ix, .int .i64 tm, .slice a1 v.length c1, .slice a2 n.length c2, .slice a3 l.length c3, .string (bs dt)] 61)) h1 h2 h3 hd
  have HP : Hid (putSnap ix tm v n l dt = if snOk ix tm v n l dt then (encSnap ix.toNat tm.toNat (natsOf v) (natsOf n) (natsOf l) dt, 0) else ([], 6)) := rfl
  rw [HP.out]
  clear h h1 h2 h3 hd
  cases hq : snOk ix tm v n l dt with
  | false =>
    rw [hq] at H1
    clear hq
    simp only [Bool.false_eq_true, if_false]
    go_enter Try.func46, Try.ntmps46
    go_wp2_with fail
    refine H1.mono ?_
    rintro e w1 ⟨rfl, k1⟩
    go_wp2
    go_ret2
    exact ⟨rfl, ((Kept.refl _ _).alloc _).trans k1⟩
  | true =>
    obtain ⟨q1, q2, q3, q4⟩ := snOk_facts hq
    obtain ⟨r1, r2, r3⟩ := isCfg_facts q3
    obtain ⟨e1, f1, _⟩ := rise_few r1
    obtain ⟨e2, f2, _⟩ := rise_few r2
    obtain ⟨e3, f3, _⟩ := rise_few r3
    have b1 := isCnt_nat q1
    have b2 := isCnt_nat q2
    have H2 := fun w' (hk : Kept Nil w w') => refSnapshot_any B ix.toNat tm.toNat c1 c2 c3 a1 a2 a3 (natsOf v) (natsOf n) (natsOf l) dt w' (by rw [e1, e2, e3]; exact HR.out.nil hk) f1 f2 f3 b1.2 b2.2 q4
    rw [natsOf_len, natsOf_len, natsOf_len, b1.1, b2.1] at H2
    rw [hq] at H1
    simp only [if_true]
    clear hq r1 r2 r3 e1 e2 e3 f1 f2 f3 q1 q2 q3 q4 b1 b2
    generalize encSnap ix.toNat tm.toNat (natsOf v) (natsOf n) (natsOf l) dt = r at H2 ⊢
    go_enter Try.func46, Try.ntmps46
    go_wp2_with fail
    refine H1.mono ?_
    rintro e w1 ⟨rfl, k1⟩
    have K1 : Hid (Kept Nil w w1) := ((Kept.refl _ _).alloc _).trans k1
    have X1 := k1.block _ _ HB.out (fun x => x.elim)
    have p0 := blk_at X1 0 rfl
    have p1 := blk_at X1 1 rfl
    have p2 := blk_at X1 2 rfl
    have p3 := blk_at X1 3 rfl
    have p4 := blk_at X1 4 rfl
    have p5 := blk_at X1 5 rfl
    go_wp2_with fail
    refine (H2 _ K1.out).mono ?_
    rintro e w2 ⟨rfl, k2⟩
    go_wp2
    go_ret2
    exact ⟨rfl, K1.out.trans k2⟩

end Go.Proofs.Ytijklginabipgaa
