/-
  A configuration written: the writer's list and config, PutConfig; and the document's: the same bytes.
-/
import Derived.Test.YtijklginabipgaaGreatWCfg2
import Derived.Test.YtijklginabipgaaGreatWEnt2
import Derived.Test.YtijklginabipgaaGreatWNumsR
namespace Go.Proofs.YtijklginabipgaaGreat
open Go.RowKit

theorem not_below {b B k : Nat} {o : Obj} (hB : B ≤ b) (hk : k < B) : ¬ Wr b k o := by
  rintro (e | ⟨h, _⟩) <;> omega

def encNums (ns : List Nat) : List UInt8 := enc ns.length ++ encAll ns

set_option maxRecDepth 100000 in
set_option maxHeartbeats 1000000 in
theorem putListI_any (b B cap : Nat) (ao : Option Addr) (ns : List Nat) (l : List UInt8) (w : World) (h : WInv b w l) (hr : IntRow B w ao (intsOf ns)) (hB : B ≤ b)
    (hn : ∀ n ∈ ns, n ≤ 1099511627775) (hnl : ns.length ≤ 1000) (hl : l.length ≤ 100000000000) :
    Calls Tryz.prog 64 #[.pointer (some ⟨b, 0, none⟩), .slice ao ns.length cap, .func (.func 65) #[] #[]] w fun e w' => e = .returned (.tuple #[]) ∧ WInv b w' (l ++ encNums ns) ∧ Kept (Wr b) w w' := by
  have HR : Hid (IntRow B w ao (intsOf ns)) := hr
  have HN : Hid (∀ n ∈ ns, n ≤ 1099511627775) := hn
  have HL : Hid (l.length ≤ 100000000000 ∧ B ≤ b) := ⟨hl, hB⟩
  have N0 := wNumber_any b ns.length l w h (by omega) (by omega)
  have hnl' : (ns.length : Int) ≤ 1000 := by omega
  have HE0 : Hid ((enc ns.length).length ≤ 6) := enc_len6 (by omega)
  clear hr hn hl hB h
  go_enter Tryz.func64, Tryz.ntmps64
  go_wp2_with fail
  refine N0.mono ?_
  rintro e w1 ⟨rfl, i1, k1⟩
  have HK1 : Hid (Kept (Wr b) w w1) := k1
  have HI1 : Hid (WInv b w1 (l ++ enc ns.length)) := i1
  clear i1 k1 N0
  go_wp2
  go_loopw [14] (fun i wr => ∃ k : Nat, k ≤ ns.length ∧ i = .int .i64 k ∧ Hid (WInv b wr ((l ++ enc ns.length) ++ encAll (ns.take k))) ∧ Hid (Kept (Wr b) w wr)) (fun i _ => ns.length - (intOf i).toNat)
  case atStart => exact ⟨0, Nat.zero_le _, rfl, by show WInv _ _ _; simpa [encAll] using HI1.out, HK1.out⟩
  case round =>
    obtain ⟨k, hk, rfl, HI, HK⟩ := hrel
    clear HI1 HK1
    by_cases hlt : k < ns.length
    · obtain ⟨a, rfl, _, hcell⟩ := (HR.out.kept HK.out (fun _ _ h => not_below HL.out.2 h)) k (by simpa [intsOf] using hlt)
      replace hcell : wr.cell? (a.add k) = some (.int .i64 (ns[k] : Nat)) := by simpa [intsOf] using hcell
      have hle := HN.out ns[k] (List.getElem_mem hlt)
      have HE : Hid (((l ++ enc ns.length) ++ encAll (ns.take k)) ++ enc ns[k] = (l ++ enc ns.length) ++ encAll (ns.take (k + 1))) := by
        show _ = _
        rw [List.take_succ_eq_append_getElem hlt, encAll_snoc, List.append_assoc, List.append_assoc]
      have H := wNumber_any b ns[k] _ wr HI.out hle (by
        have h1 := encAll_len (ns.take k) (fun n hn => HN.out n (List.mem_of_mem_take hn))
        have h2 := HL.out.1
        have h3 := HE0.out
        simp only [List.length_append, List.length_take] at h1 ⊢
        omega)
      rw [HE.out] at H
      generalize ns[k] = x at *
      have hle' : (x : Int) ≤ 1099511627775 := by omega
      clear hle HI HE
      go_wp2_with fail
      refine H.mono ?_
      rintro e w' ⟨rfl, i', k'⟩
      have HK' : Hid (Kept (Wr b) w w') := HK.out.trans k'
      have HI' : Hid (WInv b w' ((l ++ enc ns.length) ++ encAll (ns.take (k + 1)))) := i'
      clear i' k'
      go_wp2
      go_roundw
      case rel => exact ⟨k + 1, by omega, by go_num, HI'.out, HK'.out⟩
      case measure => simp [intOf]; omega
    · have HI2 : Hid (WInv b wr (l ++ encNums ns)) := by
        show WInv _ _ _
        have := HI.out
        rw [List.take_of_length_le (by omega), List.append_assoc] at this
        exact this
      go_wp2
      go_end0
      exact ⟨rfl, HI2.out, HK.out⟩

/-- A configuration's bytes. -/
def encCfg (v n l : List Nat) : List UInt8 := encNums v ++ encNums n ++ encNums l
/-- Numbers that are small, and few. -/
structure Few (ns : List Nat) : Prop where
  le : ∀ n ∈ ns, n ≤ 1099511627775
  len : ns.length ≤ 1000
theorem Few.enc {ns : List Nat} (h : Few ns) : (encNums ns).length ≤ 6006 := by
  have h1 := encAll_len ns h.le
  have h2 := enc_len6 (n := ns.length) (by have := h.len; omega)
  have h3 := h.len
  simp only [encNums, List.length_append]
  omega

set_option maxRecDepth 100000 in
set_option maxHeartbeats 1000000 in
theorem wConfig_any (b B c1 c2 c3 : Nat) (a1 a2 a3 : Option Addr) (v n l : List Nat) (t : List UInt8) (w : World) (h : WInv b w t) (hr : CfRows B w a1 a2 a3 (intsOf v) (intsOf n) (intsOf l)) (hB : B ≤ b) (f1 : Few v) (f2 : Few n) (f3 : Few l) (hl : t.length ≤ 10000000000) :
    Calls Tryz.prog 30 #[.pointer (some ⟨b, 0, none⟩), .agg #[.slice a1 v.length c1, .slice a2 n.length c2, .slice a3 l.length c3]] w fun e w' => e = .returned (.tuple #[]) ∧ WInv b w' (t ++ encCfg v n l) ∧ Kept (Wr b) w w' := by
  have hlt := h.lt
  have HX : Hid (¬ Wr b w.heap.size (.cells #[.slice a1 v.length c1, .slice a2 n.length c2, .slice a3 l.length c3] 38)) := not_wr (Nat.ne_of_gt hlt) (by decide)
  have HB : Hid (_) := blk_new w (.cells #[.slice a1 v.length c1, .slice a2 n.length c2, .slice a3 l.length c3] 38)
  have HR : Hid (CfRows B (w.alloc (.cells #[.slice a1 v.length c1, .slice a2 n.length c2, .slice a3 l.length c3] 38)) a1 a2 a3 (intsOf v) (intsOf n) (intsOf l)) := hr.alloc _
  have HL : Hid (t.length ≤ 10000000000 ∧ B ≤ b ∧ Few v ∧ Few n ∧ Few l) := ⟨hl, hB, f1, f2, f3⟩
  have HE : Hid (t ++ encCfg v n l = ((t ++ encNums v) ++ encNums n) ++ encNums l) := by show _ = _; simp [encCfg]
  have P1 := putListI_any b B c1 a1 v t _ (h.alloc _) HR.out.r1 hB f1.le f1.len (by omega)
  clear hlt hr hB f1 f2 f3 hl h
  rw [HE.out]
  go_enter Tryz.func30, Tryz.ntmps30
  go_wp2_with fail
  refine P1.mono ?_
  rintro e w1 ⟨rfl, i1, k1⟩
  have X1 : Hid (_) := k1.block _ _ HB.out HX.out
  have R1 : Hid (_) := HR.out.kept k1 (fun _ _ h => not_below HL.out.2.1 h)
  have q1 := blk_at X1.out 1 rfl
  have P2 := putListI_any b B c2 a2 n _ w1 i1 R1.out.r2 HL.out.2.1 HL.out.2.2.2.1.le HL.out.2.2.2.1.len (by have := HL.out.1; have := HL.out.2.2.1.enc; simp only [List.length_append]; omega)
  go_wp2_with fail
  refine P2.mono ?_
  rintro e w2 ⟨rfl, i2, k2⟩
  have X2 : Hid (_) := k2.block _ _ X1.out HX.out
  have R2 : Hid (_) := R1.out.kept k2 (fun _ _ h => not_below HL.out.2.1 h)
  have q2 := blk_at X2.out 2 rfl
  have P3 := putListI_any b B c3 a3 l _ w2 i2 R2.out.r3 HL.out.2.1 HL.out.2.2.2.2.le HL.out.2.2.2.2.len (by have := HL.out.1; have := HL.out.2.2.1.enc; have := HL.out.2.2.2.1.enc; simp only [List.length_append]; omega)
  go_wp2_with fail
  refine P3.mono ?_
  rintro e w3 ⟨rfl, i3, k3⟩
  go_wp2
  go_end0
  exact ⟨rfl, i3, ((((Kept.refl _ _).alloc _).trans k1).trans k2).trans k3⟩

theorem Kept.belowWr {w w' : World} {o1 o2 : Obj} (h : Kept (Wr (w.heap.size + 1)) ((w.alloc o1).alloc o2) w') : Kept Nil w w' :=
  Kept.ofNew (((Kept.refl _ _).alloc _).alloc _) h (by rintro k o (rfl | ⟨hk, _⟩) <;> omega)

set_option maxRecDepth 100000 in
set_option maxHeartbeats 1000000 in
theorem writeCfg_ok (c1 c2 c3 : Nat) (a1 a2 a3 : Option Addr) (v n l : List Nat) (w : World) (hr : CfRows w.heap.size w a1 a2 a3 (intsOf v) (intsOf n) (intsOf l)) (f1 : Few v) (f2 : Few n) (f3 : Few l) (c : Int) :
    Calls Tryz.prog 28 #[.agg #[.slice a1 v.length c1, .slice a2 n.length c2, .slice a3 l.length c3], .bool true, .int .i64 c, .func (.func 30) #[] #[]] w fun e w' => e = .returned (.tuple #[.string (bs (encCfg v n l)), .int .i64 0]) ∧ Kept Nil w w' := by
  have hw := winv_new (w.alloc (.cells #[.slice a1 v.length c1, .slice a2 n.length c2, .slice a3 l.length c3] 38))
  have es : (w.alloc (.cells #[.slice a1 v.length c1, .slice a2 n.length c2, .slice a3 l.length c3] 38)).heap.size = w.heap.size + 1 := by simp
  rw [es] at hw
  have H1 := wConfig_any (w.heap.size + 1) w.heap.size c1 c2 c3 a1 a2 a3 v n l [] _ hw ((hr.alloc _).alloc _) (by omega) f1 f2 f3 (by simp)
  simp only [List.nil_append] at H1
  clear hw es hr f1 f2 f3
  go_enter Tryz.func28, Tryz.ntmps28
  go_wp2_with fail
  refine H1.mono ?_
  rintro e w1 ⟨rfl, ⟨ao, c', hb, ho⟩, hk⟩
  have h0 := blk_at hb 0 rfl
  have hcv := conv_own ho
  go_wp2
  go_ret2
  exact ⟨rfl, hk.belowWr⟩

set_option maxRecDepth 100000 in
theorem writeCfg_no (cs : Array Value) (w : World) (c : Int) (f : Value) :
    Calls Tryz.prog 28 #[.agg cs, .bool false, .int .i64 c, f] w fun e w' => e = .returned (.tuple #[.string (bs []), .int .i64 c]) ∧ Kept Nil w w' := by
  go_enter Tryz.func28, Tryz.ntmps28
  go_wp2
  go_ret2
  exact ⟨rfl, (Kept.refl _ _).alloc _⟩

/-! ### a configuration that may be has few nodes -/
theorem rise_facts : ∀ (zs : List Int) (p : Int), 0 ≤ p → rise p zs = true → (∀ z ∈ zs, 1 ≤ z ∧ z ≤ 9 ∧ p < z) ∧ (p ≤ 9 → (zs.length : Int) ≤ 9 - p)
  | [], p, _, _ => ⟨fun z hz => by simp at hz, fun h => by simp; omega⟩
  | y :: t, p, hp, h => by
    simp only [rise, Bool.and_eq_true, decide_eq_true_eq, isNd] at h
    obtain ⟨⟨⟨h1, h2⟩, h3⟩, h4⟩ := h
    have ih := rise_facts t y (by omega) h4
    refine ⟨fun z hz => ?_, fun _ => ?_⟩
    · rcases List.mem_cons.1 hz with rfl | hz
      · exact ⟨h1, h2, h3⟩
      · have := ih.1 z hz
        exact ⟨this.1, this.2.1, by omega⟩
    · have := ih.2 h2
      simp only [List.length_cons]
      omega
def natsOf (zs : List Int) : List Nat := zs.map Int.toNat
theorem ints_nats {zs : List Int} (h : ∀ z ∈ zs, 0 ≤ z) : intsOf (natsOf zs) = zs := by
  unfold intsOf natsOf
  rw [List.map_map]
  refine (List.map_congr_left (g := id) fun z hz => ?_).trans (List.map_id _)
  have := h z hz
  show ((z.toNat : Nat) : Int) = z
  omega
theorem rise_few {zs : List Int} (h : rise 0 zs = true) : intsOf (natsOf zs) = zs ∧ Few (natsOf zs) ∧ zs.length ≤ 9 := by
  have hf := rise_facts zs 0 (by omega) h
  have h9 := hf.2 (by omega)
  refine ⟨ints_nats fun z hz => by have := hf.1 z hz; omega, ⟨fun n hn => ?_, by simp [natsOf]; omega⟩, by omega⟩
  obtain ⟨z, hz, rfl⟩ := List.mem_map.1 hn
  have := hf.1 z hz
  omega
theorem isCfg_facts {v n l : List Int} (h : isCfg v n l = true) : rise 0 v = true ∧ rise 0 n = true ∧ rise 0 l = true := by
  simp only [isCfg, Bool.and_eq_true] at h
  exact ⟨h.1.1.1.2, h.1.1.2, h.1.2⟩
def putCfg (v n l : List Int) : List UInt8 × Int := if isCfg v n l then (encCfg (natsOf v) (natsOf n) (natsOf l), 0) else ([], 8)
theorem natsOf_len (zs : List Int) : (natsOf zs).length = zs.length := by simp [natsOf]

theorem writeCfg_any (c1 c2 c3 : Nat) (a1 a2 a3 : Option Addr) (v n l : List Int) (w : World) (hr : CfRows w.heap.size w a1 a2 a3 v n l) :
    Calls Tryz.prog 28 #[.agg #[.slice a1 v.length c1, .slice a2 n.length c2, .slice a3 l.length c3], .bool (isCfg v n l), .int .i64 8, .func (.func 30) #[] #[]] w fun e w' => e = .returned (.tuple #[.string (bs (putCfg v n l).1), .int .i64 (putCfg v n l).2]) ∧ Kept Nil w w' := by
  unfold putCfg
  cases hq : isCfg v n l with
  | false => exact writeCfg_no _ w 8 _
  | true =>
    obtain ⟨r1, r2, r3⟩ := isCfg_facts hq
    obtain ⟨e1, f1, _⟩ := rise_few r1
    obtain ⟨e2, f2, _⟩ := rise_few r2
    obtain ⟨e3, f3, _⟩ := rise_few r3
    have H := writeCfg_ok c1 c2 c3 a1 a2 a3 (natsOf v) (natsOf n) (natsOf l) w (by rw [e1, e2, e3]; exact hr) f1 f2 f3 8
    rw [natsOf_len, natsOf_len, natsOf_len] at H
    exact H

set_option maxRecDepth 100000 in
set_option maxHeartbeats 1000000 in
theorem putConfig_any (B c1 c2 c3 : Nat) (a1 a2 a3 : Option Addr) (v n l : List Int) (w : World) (h : CfRows B w a1 a2 a3 v n l) (h1 : (v.length : Int) ≤ 9223372036854775807) (h2 : (n.length : Int) ≤ 9223372036854775807) (h3 : (l.length : Int) ≤ 9223372036854775807) :
    Calls Tryz.prog 9 #[.agg #[.slice a1 v.length c1, .slice a2 n.length c2, .slice a3 l.length c3]] w fun e w' => e = .returned (.tuple #[.string (bs (putCfg v n l).1), .int .i64 (putCfg v n l).2]) ∧ Kept Nil w w' := by
  have HR : Hid (CfRows B w a1 a2 a3 v n l) := h
  have H1 := fun w' (hk : Kept Nil w w') => valid_any B c1 c2 c3 a1 a2 a3 v n l w' (HR.out.nil hk) h1 h2 h3
  have H2 := fun w' (hk : Kept Nil w w') => writeCfg_any c1 c2 c3 a1 a2 a3 v n l w' (HR.out.nil hk).full
  generalize isCfg v n l = okb at H1 H2
  generalize putCfg v n l = pr at H2 ⊢
  obtain ⟨p1, p2⟩ := pr
  simp only at H2 ⊢
  clear h h1 h2 h3
  have HB : Hid (_) := blk_new w (.cells #[.slice a1 v.length c1, .slice a2 n.length c2, .slice a3 l.length c3] 38)
  have HK : Hid (Kept Nil w (w.alloc (.cells #[.slice a1 v.length c1, .slice a2 n.length c2, .slice a3 l.length c3] 38)).drew) := ((Kept.refl _ _).alloc _).drew
  go_enter Tryz.func9, Tryz.ntmps9
  go_wp2
  go_region_with (first | (go_at_call 29; go_must (refine (H1 _ HK.out).mono ?_); rintro e w1 ⟨rfl, k1⟩; have X1 := k1.block _ _ HB.out (fun x => x.elim); have q0 := blk_at X1 0 rfl; have q1 := blk_at X1 1 rfl; have q2 := blk_at X1 2 rfl; have HK1 : Hid (Kept Nil w w1) := HK.out.trans k1; clear X1) | (go_at_call 28; go_must (refine (H2 _ HK1.out).mono ?_); rintro e w2 ⟨rfl, k2⟩))
  all_goals go_wp2
  all_goals go_ret2
  all_goals exact ⟨rfl, HK1.out.trans k2⟩

/-! ### the document's -/
end Go.Proofs.YtijklginabipgaaGreat
