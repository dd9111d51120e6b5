/-
  Joined: WCfg2, WEnt2, WGetN, WNumsR, WCfg3, WCfg4, WSnap1, WTabP.
-/
import Derived.Test.YtblmmbghnkplkaaWOld
import Derived.BigQuiet
import Derived.Test.YtblmmbghnkplkaaWTab5
/-
  Which configurations may be: the program's Valid (Votes, ContainsFunc with its own function) and the document's IsConfig: the same plain answer.
-/
namespace Go.Proofs.Ytblmmbghnkplkaa
open Go.RowKit

def vot (v n : List Int) (z : Int) : Bool := hasZ v z || hasZ n z
def isCfg (v n l : List Int) : Bool := !v.isEmpty && rise 0 v && rise 0 n && rise 0 l && !l.any (vot v n)
/-- A configuration's three rows. -/
structure CfRows (B : Nat) (w : World) (a1 a2 a3 : Option Addr) (v n l : List Int) : Prop where
  r1 : IntRow B w a1 v
  r2 : IntRow B w a2 n
  r3 : IntRow B w a3 l
theorem CfRows.nil {B : Nat} {w w' : World} {a1 a2 a3 : Option Addr} {v n l : List Int} (h : CfRows B w a1 a2 a3 v n l) (hk : Kept Nil w w') : CfRows B w' a1 a2 a3 v n l := ⟨h.r1.nil hk, h.r2.nil hk, h.r3.nil hk⟩
theorem CfRows.kept {X : Nat → Obj → Prop} {B : Nat} {w w' : World} {a1 a2 a3 : Option Addr} {v n l : List Int} (h : CfRows B w a1 a2 a3 v n l) (hk : Kept X w w') (hX : ∀ k o, k < B → ¬ X k o) : CfRows B w' a1 a2 a3 v n l := ⟨h.r1.kept hk hX, h.r2.kept hk hX, h.r3.kept hk hX⟩
theorem CfRows.alloc {B : Nat} {w : World} {a1 a2 a3 : Option Addr} {v n l : List Int} (h : CfRows B w a1 a2 a3 v n l) (o : Obj) : CfRows B (w.alloc o) a1 a2 a3 v n l := h.nil ((Kept.refl _ _).alloc o)
theorem CfRows.full {B : Nat} {w : World} {a1 a2 a3 : Option Addr} {v n l : List Int} (h : CfRows B w a1 a2 a3 v n l) : CfRows w.heap.size w a1 a2 a3 v n l := ⟨h.r1.full, h.r2.full, h.r3.full⟩

set_option maxRecDepth 100000 in
set_option maxHeartbeats 1000000 in
theorem votes_any (B c1 c2 c3 : Nat) (a1 a2 a3 : Option Addr) (v n l : List Int) (z : Int) (w : World) (h : CfRows B w a1 a2 a3 v n l) (h1 : (v.length : Int) ≤ 9223372036854775807) (h2 : (n.length : Int) ≤ 9223372036854775807) :
    Calls Try.prog 28 #[.agg #[.slice a1 v.length c1, .slice a2 n.length c2, .slice a3 l.length c3], .int .i64 z] w fun e w' => e = .returned (.bool (vot v n z)) ∧ Kept Nil w w' := by
  have C1 := contains_any B c1 a1 v z _ (h.r1.alloc (.cells #[.slice a1 v.length c1, .slice a2 n.length c2, .slice a3 l.length c3] 24)) h1
  have C2 := contains_any B c2 a2 n z _ (h.r2.alloc (.cells #[.slice a1 v.length c1, .slice a2 n.length c2, .slice a3 l.length c3] 24)) h2
  have HV : Hid (vot v n z = (hasZ v z || hasZ n z)) := rfl
  generalize hasZ v z = b1 at *
  generalize hasZ n z = b2 at *
  clear h h1 h2
  cases b1 with
  | true =>
    go_enter Try.func28, Try.ntmps28
    go_wp2_with fail
    refine C1.mono ?_
    rintro e w1 ⟨rfl, rfl⟩
    go_wp2
    go_ret
    rw [HV.out]
    exact ⟨rfl, (Kept.refl _ _).alloc _⟩
  | false =>
    go_enter Try.func28, Try.ntmps28
    go_wp2_with fail
    refine C1.mono ?_
    rintro e w1 ⟨rfl, hw1⟩
    rw [← hw1] at C2
    have K1 : Hid (Kept Nil w w1) := by rw [hw1]; exact (Kept.refl _ _).alloc _
    have hb : w1.heap[w.heap.size]? = some (.cells #[.slice a1 v.length c1, .slice a2 n.length c2, .slice a3 l.length c3] 24 (0, 0)) := by rw [hw1]; exact blk_new _ _
    have q1 : w1.cell? ⟨w.heap.size, 1, none⟩ = some (.slice a2 n.length c2) := blk_cell hb 1
    clear hw1 hb
    go_wp2_with fail
    refine C2.mono ?_
    rintro e w2 ⟨rfl, rfl⟩
    go_wp2
    go_ret
    rw [HV.out]
    exact ⟨rfl, K1.out⟩

def idxF (p : Int → Bool) : Nat → List Int → Int
  | _, [] => -1
  | k, y :: t => if p y then k else idxF p (k + 1) t
theorem idxF_at {zs : List Int} {p : Int → Bool} {k : Nat} (h : k < zs.length) : idxF p k (zs.drop k) = if p zs[k] then (k : Int) else idxF p (k + 1) (zs.drop (k + 1)) := by
  rw [List.drop_eq_getElem_cons h]
  rfl
theorem idxF_any (p : Int → Bool) : ∀ (zs : List Int) (k : Nat), decide (0 ≤ idxF p k zs) = zs.any p
  | [], k => rfl
  | y :: t, k => by
    unfold idxF
    cases h : p y with
    | true => simp [h]
    | false => rw [if_neg (by decide), idxF_any p t (k + 1), List.any_cons, h, Bool.false_or]

set_option maxRecDepth 100000 in
set_option maxHeartbeats 1000000 in
theorem validF_any (B C c1 c2 c3 : Nat) (a1 a2 a3 : Option Addr) (v n l : List Int) (z : Int) (w : World) (h : CfRows B w a1 a2 a3 v n l) (hb : w.heap[C]? = some (.cells #[.slice a1 v.length c1, .slice a2 n.length c2, .slice a3 l.length c3] 24 (0, 0)))
    (h1 : (v.length : Int) ≤ 9223372036854775807) (h2 : (n.length : Int) ≤ 9223372036854775807) :
    Calls Try.prog 65 #[.int .i64 z, .pointer (some ⟨C, 0, none⟩)] w fun e w' => e = .returned (.bool (vot v n z)) ∧ Kept Nil w w' := by
  have H := votes_any B c1 c2 c3 a1 a2 a3 v n l z w h h1 h2
  have q0 : w.cell? ⟨C, 0, none⟩ = some (.slice a1 v.length c1) := blk_cell hb 0
  have q1 : w.cell? ⟨C, 1, none⟩ = some (.slice a2 n.length c2) := blk_cell hb 1
  have q2 : w.cell? ⟨C, 2, none⟩ = some (.slice a3 l.length c3) := blk_cell hb 2
  clear h hb h1 h2
  go_enter Try.func65, Try.ntmps65
  go_wp2_with fail
  refine H.mono ?_
  rintro e w1 ⟨rfl, hk⟩
  go_wp2
  go_ret
  exact ⟨rfl, hk⟩

set_option maxRecDepth 100000 in
set_option maxHeartbeats 1000000 in
theorem indexF_any (B C c1 c2 c3 : Nat) (a1 a2 a3 : Option Addr) (v n l : List Int) (w : World) (h : CfRows B w a1 a2 a3 v n l) (hb : w.heap[C]? = some (.cells #[.slice a1 v.length c1, .slice a2 n.length c2, .slice a3 l.length c3] 24 (0, 0)))
    (h1 : (v.length : Int) ≤ 9223372036854775807) (h2 : (n.length : Int) ≤ 9223372036854775807) (h3 : (l.length : Int) ≤ 9223372036854775807) :
    Calls Try.prog 105 #[.slice a3 l.length c3, .func (.func 65) #[] #[.pointer (some ⟨C, 0, none⟩)]] w fun e w' => e = .returned (.int .i64 (idxF (vot v n) 0 l)) ∧ Kept Nil w w' := by
  have HR : Hid (CfRows B w a1 a2 a3 v n l) := h
  have HC : Hid (_) := hb
  clear h hb
  go_enter Try.func105, Try.ntmps105
  go_wp2
  go_loopw [8] (fun i wr => ∃ k : Nat, k ≤ l.length ∧ i = .int .i64 k ∧ Hid (idxF (vot v n) 0 l = idxF (vot v n) k (l.drop k)) ∧ Hid (Kept Nil w wr)) (fun i _ => l.length - (intOf i).toNat)
  case atStart => exact ⟨0, Nat.zero_le _, rfl, rfl, Kept.refl _ _⟩
  case round =>
    obtain ⟨k, hk, rfl, HI, HK⟩ := hrel
    by_cases hlt : k < l.length
    · obtain ⟨a, rfl, _, hcell⟩ := (HR.out.nil HK.out).r3 k hlt
      have F := validF_any B C c1 c2 c3 a1 a2 (some a) v n l l[k] wr (HR.out.nil HK.out) (HK.out.block _ _ HC.out (fun x => x.elim)) h1 h2
      have HA : Hid (idxF (vot v n) 0 l = if vot v n l[k] then (k : Int) else idxF (vot v n) (k + 1) (l.drop (k + 1))) := HI.out.trans (idxF_at hlt)
      generalize l[k] = z at *
      cases hz : vot v n z with
      | true =>
        rw [hz] at F
        have HF : Hid (idxF (vot v n) 0 l = k) := HA.out.trans (if_pos hz)
        clear hz HA HI
        go_wp2_with fail
        refine F.mono ?_
        rintro e w1 ⟨rfl, hk1⟩
        go_wp2
        go_ret
        rw [HF.out]
        exact ⟨rfl, HK.out.trans hk1⟩
      | false =>
        rw [hz] at F
        have HF : Hid (idxF (vot v n) 0 l = idxF (vot v n) (k + 1) (l.drop (k + 1))) := HA.out.trans (if_neg (by rw [hz]; decide))
        clear hz HA HI
        go_wp2_with fail
        refine F.mono ?_
        rintro e w1 ⟨rfl, hk1⟩
        go_wp2
        go_roundw
        case rel => exact ⟨k + 1, by omega, by go_num, HF, HK.out.trans hk1⟩
        case measure => simp [intOf]; omega
    · have HF : Hid (idxF (vot v n) 0 l = -1) := by show idxF (vot v n) 0 l = -1; rw [HI.out, List.drop_of_length_le (by omega)]; rfl
      go_wp2
      go_ret
      rw [HF.out]
      exact ⟨rfl, HK.out⟩

def anyV (v n l : List Int) : Bool := l.any (vot v n)
set_option maxRecDepth 100000 in
theorem containsF_any (B C c1 c2 c3 : Nat) (a1 a2 a3 : Option Addr) (v n l : List Int) (w : World) (h : CfRows B w a1 a2 a3 v n l) (hb : w.heap[C]? = some (.cells #[.slice a1 v.length c1, .slice a2 n.length c2, .slice a3 l.length c3] 24 (0, 0)))
    (h1 : (v.length : Int) ≤ 9223372036854775807) (h2 : (n.length : Int) ≤ 9223372036854775807) (h3 : (l.length : Int) ≤ 9223372036854775807) :
    Calls Try.prog 66 #[.slice a3 l.length c3, .func (.func 65) #[] #[.pointer (some ⟨C, 0, none⟩)]] w fun e w' => e = .returned (.bool (anyV v n l)) ∧ Kept Nil w w' := by
  have H := indexF_any B C c1 c2 c3 a1 a2 a3 v n l w h hb h1 h2 h3
  have HP : Hid (decide (0 ≤ idxF (vot v n) 0 l) = anyV v n l) := idxF_any (vot v n) l 0
  generalize idxF (vot v n) 0 l = p at *
  clear h hb h1 h2 h3
  rw [← HP.out]
  go_enter Try.func66, Try.ntmps66
  go_wp2_with fail
  refine H.mono ?_
  rintro e w1 ⟨rfl, hk⟩
  go_wp2
  go_ret
  exact ⟨rfl, hk⟩

theorem isCfg_eq (v n l : List Int) : isCfg v n l = (!v.isEmpty && rise 0 v && rise 0 n && rise 0 l && !anyV v n l) := rfl

set_option maxRecDepth 100000 in
set_option maxHeartbeats 2000000 in
theorem valid_any (B c1 c2 c3 : Nat) (a1 a2 a3 : Option Addr) (v n l : List Int) (w : World) (h : CfRows B w a1 a2 a3 v n l) (h1 : (v.length : Int) ≤ 9223372036854775807) (h2 : (n.length : Int) ≤ 9223372036854775807) (h3 : (l.length : Int) ≤ 9223372036854775807) :
    Calls Try.prog 22 #[.agg #[.slice a1 v.length c1, .slice a2 n.length c2, .slice a3 l.length c3]] w fun e w' => e = .returned (.bool (isCfg v n l)) ∧ Kept Nil w w' := by
  have hmf : ∀ (fn : Fn) (first cap : Array Value) (w : World), (Instr.makeFunc fn first cap).run Try.prog w = .ok (.func fn first cap) w := fun _ _ _ _ => rfl
  have hA := h.alloc (.cells #[.slice a1 v.length c1, .slice a2 n.length c2, .slice a3 l.length c3] 24)
  have A1 := areNodes_any B c1 a1 v _ hA.r1 h1
  have A2 := areNodes_any B c2 a2 n _ hA.r2 h2
  have A3 := areNodes_any B c3 a3 l _ hA.r3 h3
  have F := containsF_any B w.heap.size c1 c2 c3 a1 a2 a3 v n l _ hA (blk_new w _) h1 h2 h3
  have HE : Hid (isCfg v n l = (!v.isEmpty && rise 0 v && rise 0 n && rise 0 l && !anyV v n l)) := isCfg_eq v n l
  generalize anyV v n l = b4 at *
  generalize rise 0 v = b1 at *
  generalize rise 0 n = b2 at *
  generalize rise 0 l = b3 at *
  clear h hA
  cases hv : v.isEmpty with
  | true =>
    have hl : (v.length : Int) ≤ 0 := by rw [List.isEmpty_iff] at hv; rw [hv]; simp
    have hl2 : ((v.length : Int) == 0) = true := by simp; exact List.isEmpty_iff.1 hv
    have HF : Hid (isCfg v n l = false) := by show isCfg v n l = false; rw [HE.out, hv]; rfl
    clear hv HE
    go_enter Try.func22, Try.ntmps22
    go_wp2
    go_ret
    rw [HF.out]
    exact ⟨rfl, (Kept.refl _ _).alloc _⟩
  | false =>
    have hl2 : ((v.length : Int) == 0) = false := by
      cases v with
      | nil => cases hv
      | cons y t => simp; omega
    have HF : Hid (isCfg v n l = (b1 && b2 && b3 && !b4)) := by show isCfg v n l = _; rw [HE.out, hv]; simp
    clear hv HE
    rw [HF.out]
    cases b1 with
    | false =>
      go_enter Try.func22, Try.ntmps22
      go_wp2_with fail
      refine A1.mono ?_
      rintro e w1 ⟨rfl, rfl⟩
      go_wp2
      go_ret
      exact ⟨rfl, (Kept.refl _ _).alloc _⟩
    | true =>
      cases b2 with
      | false =>
        go_enter Try.func22, Try.ntmps22
        go_wp2_with fail
        refine A1.mono ?_
        rintro e w1 ⟨rfl, rfl⟩
        go_wp2_with fail
        refine A2.mono ?_
        rintro e w1 ⟨rfl, rfl⟩
        go_wp2
        go_ret
        exact ⟨rfl, (Kept.refl _ _).alloc _⟩
      | true =>
        cases b3 with
        | false =>
          go_enter Try.func22, Try.ntmps22
          go_wp2_with fail
          refine A1.mono ?_
          rintro e w1 ⟨rfl, rfl⟩
          go_wp2_with fail
          refine A2.mono ?_
          rintro e w1 ⟨rfl, rfl⟩
          go_wp2_with fail
          refine A3.mono ?_
          rintro e w1 ⟨rfl, rfl⟩
          go_wp2
          go_ret
          exact ⟨rfl, (Kept.refl _ _).alloc _⟩
        | true =>
          go_enter Try.func22, Try.ntmps22
          go_wp2_with fail
          refine A1.mono ?_
          rintro e w1 ⟨rfl, rfl⟩
          go_wp2_with fail
          refine A2.mono ?_
          rintro e w1 ⟨rfl, rfl⟩
          go_wp2_with fail
          refine A3.mono ?_
          rintro e w1 ⟨rfl, rfl⟩
          go_wp2_with fail
          refine F.mono ?_
          rintro e w1 ⟨rfl, hk⟩
          go_wp2
          go_ret
          exact ⟨rfl, ((Kept.refl _ _).alloc _).trans hk⟩

/-! ### the document's -/
set_option maxRecDepth 100000 in
set_option maxHeartbeats 4000000 in
theorem refIsConfig_any (B c1 c2 c3 : Nat) (a1 a2 a3 : Option Addr) (v n l : List Int) (w : World) (h : CfRows B w a1 a2 a3 v n l) (h1 : (v.length : Int) ≤ 9223372036854775807) (h2 : (n.length : Int) ≤ 9223372036854775807) (h3 : (l.length : Int) ≤ 9223372036854775807) :
    Calls Try.prog 23 #[.agg #[.slice a1 v.length c1, .slice a2 n.length c2, .slice a3 l.length c3]] w fun e w' => e = .returned (.bool (isCfg v n l)) ∧ Kept Nil w w' := by
  have HR : Hid (CfRows B w a1 a2 a3 v n l) := h
  have A1 := fun w h => refRising_any B c1 a1 v w h h1
  have A2 := fun w h => refRising_any B c2 a2 n w h h2
  have A3 := fun w h => refRising_any B c3 a3 l w h h3
  have HE : Hid (isCfg v n l = (!v.isEmpty && rise 0 v && rise 0 n && rise 0 l && !anyV v n l)) := isCfg_eq v n l
  have HB0 : Hid (_) := blk_new w (.cells #[.slice a1 v.length c1, .slice a2 n.length c2, .slice a3 l.length c3] 24)
  have HK0 : Hid (Kept Nil w (w.alloc (.cells #[.slice a1 v.length c1, .slice a2 n.length c2, .slice a3 l.length c3] 24))) := (Kept.refl _ _).alloc _
  generalize rise 0 v = b1 at *
  generalize rise 0 n = b2 at *
  generalize rise 0 l = b3 at *
  clear h
  go_enter Try.func23, Try.ntmps23
  go_wp2_with fail
  refine (A1 _ (HR.out.nil HK0.out).r1).mono ?_
  rintro e w1 ⟨rfl, k1⟩
  have HB1 : Hid (_) := k1.block _ _ HB0.out (fun x => x.elim)
  have HK1 : Hid (Kept Nil w w1) := HK0.out.trans k1
  have q1 := blk_cell HB1.out 1
  simp only [List.getElem?_toArray, List.getElem?_cons_zero, List.getElem?_cons_succ] at q1
  clear HB0 HK0 k1
  go_wp2_with fail
  refine (A2 _ (HR.out.nil HK1.out).r2).mono ?_
  rintro e w2 ⟨rfl, k2⟩
  have HB2 : Hid (_) := k2.block _ _ HB1.out (fun x => x.elim)
  have HK2 : Hid (Kept Nil w w2) := HK1.out.trans k2
  have q2 := blk_cell HB2.out 2
  simp only [List.getElem?_toArray, List.getElem?_cons_zero, List.getElem?_cons_succ] at q2
  clear HB1 HK1 k2
  go_wp2_with fail
  refine (A3 _ (HR.out.nil HK2.out).r3).mono ?_
  rintro e w3 ⟨rfl, k3⟩
  have HB3 : Hid (_) := k3.block _ _ HB2.out (fun x => x.elim)
  have HK3 : Hid (Kept Nil w w3) := HK2.out.trans k3
  have q0 := blk_cell HB3.out 0
  simp only [List.getElem?_toArray, List.getElem?_cons_zero] at q0
  clear HB2 HK2 k3 A1 A2 A3 q1 q2
  cases hv : v.isEmpty with
  | true =>
    have hl2 : ((v.length : Int) == 0) = true := by simp; exact List.isEmpty_iff.1 hv
    have HF : Hid (isCfg v n l = false) := by show isCfg v n l = false; rw [HE.out, hv]; rfl
    clear hv HE
    go_wp2
    go_ret
    rw [HF.out]
    exact ⟨rfl, HK3.out⟩
  | false =>
    have hl2 : ((v.length : Int) == 0) = false := by
      cases v with
      | nil => cases hv
      | cons y t => simp; omega
    have HF : Hid (isCfg v n l = (b1 && b2 && b3 && !anyV v n l)) := by show isCfg v n l = _; rw [HE.out, hv]; simp
    clear hv HE
    by_cases hbb : b1 = true ∧ b2 = true ∧ b3 = true
    · obtain ⟨rfl, rfl, rfl⟩ := hbb
      have HF : Hid (isCfg v n l = !anyV v n l) := by show isCfg v n l = _; rw [HF.out]; simp
      go_wp2
      go_loopw [6] (fun i wr => ∃ k : Nat, k ≤ l.length ∧ i = .int .i64 k ∧ Hid (anyV v n l = (l.drop k).any (vot v n)) ∧ Hid (wr.heap[w.heap.size]? = some (.cells #[.slice a1 v.length c1, .slice a2 n.length c2, .slice a3 l.length c3] 24 (0, 0))) ∧ Hid (Kept Nil w wr)) (fun i _ => l.length - (intOf i).toNat)
      case atStart => exact ⟨0, Nat.zero_le _, rfl, rfl, HB3.out, HK3.out⟩
      case round =>
        obtain ⟨k, hk, rfl, HI, HB, HK⟩ := hrel
        clear HB3 HK3 q0
        have q0 := blk_cell HB.out 0
        have q1 := blk_cell HB.out 1
        have q2 := blk_cell HB.out 2
        simp only [List.getElem?_toArray, List.getElem?_cons_zero, List.getElem?_cons_succ] at q0 q1 q2
        have hR := HR.out.nil HK.out
        by_cases hlt : k < l.length
        · obtain ⟨a, rfl, _, hcell⟩ := hR.r3 k hlt
          have HA : Hid (anyV v n l = (vot v n l[k] || (l.drop (k + 1)).any (vot v n))) := by show anyV v n l = _; rw [HI.out, List.drop_eq_getElem_cons hlt, List.any_cons]
          have hki : (k : Int) < l.length := by omega
          have Q1 := fun m => refHas_any B c1 a1 v l[k] (wr.drewN m) (hR.r1.nil ((Kept.refl _ _).drewN _)) h1
          have Q2 := fun (wd : World) (m : Nat) (hk : Kept Nil wr wd) => refHas_any B c2 a2 n l[k] (wd.drewN m) (hR.r2.nil (hk.drewN _)) h2
          have hvt : vot v n l[k] = (hasZ v l[k] || hasZ n l[k]) := rfl
          generalize l[k] = z at *
          rw [hvt] at HA
          generalize hasZ v z = d1 at *
          generalize hasZ n z = d2 at *
          clear hvt hR
          go_wp2
          go_quiet (first | (go_at_call 59; exact Calls.quiet_of_same (Q1 _)))
          generalize hwd : wr.drewN _ = wd
          have HKd : Hid (Kept Nil w wd) := by rw [← hwd]; exact HK.out.drewN _
          have HBd : Hid (wd.heap[w.heap.size]? = some (.cells #[.slice a1 v.length c1, .slice a2 n.length c2, .slice (some a) l.length c3] 24 (0, 0))) := by rw [← hwd]; exact HB.out
          have Q3 := fun m => Q2 wd m (by rw [← hwd]; exact (Kept.refl _ _).drewN _)
          have q0 := blk_cell HBd.out 0
          have q1 := blk_cell HBd.out 1
          have q2 := blk_cell HBd.out 2
          simp only [List.getElem?_toArray, List.getElem?_cons_zero, List.getElem?_cons_succ] at q0 q1 q2
          have hcell : wd.cell? (a.add k) = some (.int .i64 z) := by rw [← hwd]; exact hcell
          clear hwd Q2 Q1 HK HB
          go_wp2
          go_quiet (first | (go_at_call 59; exact Calls.quiet_of_same (Q3 _)))
          cases d1 with
          | true =>
            have HX : Hid (isCfg v n l = false) := by show isCfg v n l = false; rw [HF.out, HA.out]; rfl
            go_wp2
            go_ret
            rw [HX.out]
            exact ⟨rfl, HKd.out.drewN _⟩
          | false =>
            cases d2 with
            | true =>
              have HX : Hid (isCfg v n l = false) := by show isCfg v n l = false; rw [HF.out, HA.out]; rfl
              go_wp2
              go_ret
              rw [HX.out]
              exact ⟨rfl, HKd.out.drewN _⟩
            | false =>
              have HX : Hid (anyV v n l = (l.drop (k + 1)).any (vot v n)) := by show anyV v n l = _; rw [HA.out]; rfl
              go_wp2
              go_roundw
              case rel => exact ⟨k + 1, by omega, by go_num, HX, HBd.out, HKd.out.drewN _⟩
              case measure => simp [intOf]; omega
        · have HX : Hid (isCfg v n l = true) := by show isCfg v n l = true; rw [HF.out, HI.out, List.drop_of_length_le (by omega)]; rfl
          go_wp2
          go_ret
          rw [HX.out]
          exact ⟨rfl, HK.out⟩
    · have HX : Hid (isCfg v n l = false) := by
        show isCfg v n l = false
        rw [HF.out]
        cases b1 <;> cases b2 <;> cases b3 <;> simp_all
      cases b1 with
      | false =>
        go_wp2
        go_ret
        rw [HX.out]
        exact ⟨rfl, HK3.out⟩
      | true =>
        cases b2 with
        | false =>
          go_wp2
          go_ret
          rw [HX.out]
          exact ⟨rfl, HK3.out⟩
        | true =>
          cases b3 with
          | false =>
            go_wp2
            go_ret
            rw [HX.out]
            exact ⟨rfl, HK3.out⟩
          | true => exact absurd ⟨rfl, rfl, rfl⟩ hbb

end Go.Proofs.Ytblmmbghnkplkaa

/-
  An entry written: the writer's entry, write, PutEntry; and the document's: the same bytes.
-/
namespace Go.Proofs.Ytblmmbghnkplkaa
open Go.RowKit

/-- An entry's bytes. -/
def encEnt (ix tm kd : Nat) (dt : List UInt8) : List UInt8 := encAll [ix, tm, kd] ++ encText dt

/-- What PutEntry answers. -/
def putEnt (x : En) : List UInt8 × Int := if x.ok then (encEnt x.ix.toNat x.tm.toNat x.kd.toNat x.dt, 0) else ([], 6)
theorem isCnt_nat {x : Int} (h : isCnt x = true) : (x.toNat : Int) = x ∧ x.toNat ≤ 1099511627775 := by
  simp only [isCnt, Bool.and_eq_true, decide_eq_true_eq] at h
  omega
theorem En.facts {x : En} (h : x.ok = true) : isCnt x.ix = true ∧ isCnt x.tm = true ∧ (0 ≤ x.kd ∧ x.kd ≤ 2) ∧ x.dt.length ≤ 256 := by
  unfold En.ok at h
  simp only [Bool.and_eq_true] at h
  obtain ⟨⟨h1, h2⟩, h3⟩ := h
  split at h3
  · rename_i h0
    rw [List.isEmpty_iff] at h3
    rw [h3]
    exact ⟨h1, h2, by omega, by simp⟩
  · split at h3
    · rename_i h0
      exact ⟨h1, h2, by omega, of_decide_eq_true h3⟩
    · cases h3

/-! ### the document's -/
theorem encEnt_eq (ix tm kd : Nat) (dt : List UInt8) : encEnt ix tm kd dt = enc ix ++ enc tm ++ enc kd ++ encText dt := by simp [encEnt, encAll]

end Go.Proofs.Ytblmmbghnkplkaa

/-
  The program's read at a row of numbers: caught or not.
-/
namespace Go.Proofs.Ytblmmbghnkplkaa
open Go.RowKit

theorem blk_drewN {w : World} {b : Nat} {o : Obj} (h : w.heap[b]? = some o) : w.drew.heap[b]? = some o := h
theorem setsN {w : World} {A : Nat} {t : TypeId} {x0 : Value} (hA : w.heap[A]? = some (.cells #[x0] t (0, 0))) (v0 : Value) :
    (w.setCell ⟨A, 0, none⟩ v0).heap[A]? = some (.cells #[v0] t (0, 0)) := by
  have s0 : (w.setCell ⟨A, 0, none⟩ v0).heap[A]? = some (.cells #[v0] t (0, 0)) := blk_set hA 0 v0
  exact s0

end Go.Proofs.Ytblmmbghnkplkaa

/-
  GetNumbers and PutNumbers; and the document's: the same plain answers. Two rows held against each other.
  PutNumbers, and the document's; what is written of numbers is read again.
-/
namespace Go.Proofs.Ytblmmbghnkplkaa
open Go.RowKit

def getNums (n : Nat) (l : List UInt8) : List Nat × Int :=
  match rdTimes rdNum n l with
  | .ok (ns, []) => (ns, 0)
  | .ok (_, _ :: _) => ([], 1)
  | .error c => ([], c)
theorem getNums_err {n : Nat} {l : List UInt8} {c : Int} (h : rdTimes rdNum n l = .error c) : getNums n l = ([], c) := by simp [getNums, h]
theorem getNums_ok {n : Nat} {l : List UInt8} {ns : List Nat} (h : rdTimes rdNum n l = .ok (ns, [])) : getNums n l = (ns, 0) := by simp [getNums, h]
theorem getNums_left {n : Nat} {l : List UInt8} {ns : List Nat} {y : UInt8} {t : List UInt8} (h : rdTimes rdNum n l = .ok (ns, y :: t)) : getNums n l = ([], 1) := by simp [getNums, h]

/-- What is handed out: a row of its own, and the error. -/
def NumsPost (g : List Nat × Int) (w : World) (e : Ending) (w' : World) : Prop := ∃ ao c, e = .returned (.tuple #[.slice ao g.1.length c, .int .i64 g.2]) ∧ OwnNats w.heap.size w' ao c g.1 ∧ Kept Nil w w'

/-! ### the document's -/
/-! ### rows, read -/
theorem OwnNats.shape {B : Nat} {w : World} {ao : Option Addr} {c : Nat} {ns : List Nat} (h : OwnNats B w ao c ns) (hn : ns ≠ []) :
    ∃ g, B ≤ g ∧ ao = some ⟨g, 0, none⟩ ∧ (∃ cs, w.heap[g]? = some (.cells cs 3 (0, 0))) ∧ ∀ j, (hj : j < ns.length) → w.cell? ⟨g, j, none⟩ = some (.int .i64 (ns[j] : Nat)) := by
  have h' := h
  rcases h.2 with ⟨_, h0⟩ | ⟨g, cap, cur, hv, hB, hg, _⟩
  · exact absurd (List.eq_nil_of_length_eq_zero h0) hn
  · simp only [Value.slice.injEq, true_and] at hv
    obtain ⟨rfl, rfl⟩ := hv
    refine ⟨g, hB, rfl, ⟨cur, hg⟩, fun j hj => ?_⟩
    rw [World.ownsRow.cellAt h' j (by omega)]
    simp [natCells, hj]
theorem OwnNats.empty {B : Nat} {w : World} {ao : Option Addr} {c : Nat} (_ : OwnNats B w ao c []) : True := trivial

end Go.Proofs.Ytblmmbghnkplkaa

namespace Go.Proofs.Ytblmmbghnkplkaa
open Go.RowKit

theorem rdTimes_enc : ∀ (ns : List Nat) (t : List UInt8), (∀ n ∈ ns, n ≤ maxNum) → rdTimes rdNum ns.length (encAll ns ++ t) = .ok (ns, t)
  | [], t, _ => rfl
  | n :: ns, t, h => by
    have e : encAll (n :: ns) ++ t = enc n ++ (encAll ns ++ t) := by simp [encAll]
    rw [e, List.length_cons]
    unfold rdTimes
    rw [rdNum_enc (h n (by simp))]
    simp only
    rw [rdTimes_enc ns t (fun m hm => h m (by simp [hm]))]

theorem own_ints {B : Nat} {w : World} {ao : Option Addr} {c : Nat} {ns : List Nat} (h : OwnNats B w ao c ns) (hn : ns ≠ []) :
    ∃ g cs, B ≤ g ∧ ao = some ⟨g, 0, none⟩ ∧ w.heap[g]? = some (.cells cs 3 (0, 0)) ∧ IntsAt w g (intsOf ns) := by
  obtain ⟨g, hB, rfl, ⟨cs, hg⟩, hc⟩ := h.shape hn
  refine ⟨g, cs, hB, rfl, hg, fun j hj => ?_⟩
  have hj' : j < ns.length := by simpa [intsOf] using hj
  rw [hc j hj']
  simp [intsOf, List.getD_eq_getElem?_getD, hj']

theorem wNumbers_nil (p : Addr) (ao : Option Addr) (c : Nat) (w : World) :
    Calls Try.prog 157 #[.pointer (some p), .slice ao 0 c] w fun e w' => e = .returned (.tuple #[]) ∧ w' = w := by
  go_enter Try.func157, Try.ntmps157
  go_wp2
  refine wp_loop_rounds 1 ?_
  rw [rounds_succ]
  go_wp2
  go_end0
  exact ⟨rfl, rfl⟩

/-- Numbers written out of a row, whatever it is. -/
theorem wNumbers_own (b B c : Nat) (ao : Option Addr) (ns : List Nat) (l : List UInt8) (w : World) (h : WInv b w l) (ho : OwnNats B w ao c ns) (hb : ∀ g, ao = some ⟨g, 0, none⟩ → g ≠ b)
    (hn : ∀ n ∈ ns, n ≤ 1099511627775) (hnl : ns.length ≤ 10000000) (hl : l.length ≤ 100000000000) :
    Calls Try.prog 157 #[.pointer (some ⟨b, 0, none⟩), .slice ao ns.length c] w fun e w' => e = .returned (.tuple #[]) ∧ WInv b w' (l ++ encAll ns) ∧ Kept (Wr b) w w' := by
  by_cases hnil : ns = []
  · subst hnil
    refine (wNumbers_nil _ ao c w).mono ?_
    rintro e w' ⟨rfl, rfl⟩
    exact ⟨rfl, by simpa [encAll] using h, .refl _ _⟩
  · obtain ⟨g, cs, _, rfl, hg, hi⟩ := own_ints ho hnil
    exact wNumbers_any b g c cs _ ns l w h hg (hb g rfl) hi hn hnl hl

theorem own_ne {B c : Nat} {w : World} {ao : Option Addr} {ns : List Nat} {b : Nat} (ho : OwnNats B w ao c ns) (hb : w.heap.size ≤ b) : ∀ g, ao = some ⟨g, 0, none⟩ → g ≠ b := by
  intro g hg
  have := (ho.lt g (by rw [hg]; rfl)).2
  omega

theorem encAll_snoc (ns : List Nat) (n : Nat) : encAll (ns ++ [n]) = encAll ns ++ enc n := by simp [encAll]

theorem src_own {B c : Nat} {w : World} {ao : Option Addr} {ns : List Nat} (h : OwnNats B w ao c ns) : Src Try.prog 1 22 (.slice ao ns.length c) ns.length (natCells ns) w := by
  by_cases hn : ns = []
  · subst hn
    rcases h.2 with ⟨hv, _⟩ | ⟨g, cap, cur, hv, _⟩
    · simp only [List.length_nil, Value.slice.injEq, true_and] at hv
      obtain ⟨rfl, rfl⟩ := hv
      exact Src.ofNil w Try.underlying22 0
    · simp only [Value.slice.injEq, true_and] at hv
      obtain ⟨rfl, rfl⟩ := hv
      exact Src.ofSlice w Try.underlying22 _ 0 c [] rfl (fun j u hj => by simp at hj) (fun u hu => by cases hu)
  · obtain ⟨g, _, rfl, _, hc⟩ := h.shape hn
    refine Src.ofSlice w Try.underlying22 _ ns.length c (natCells ns) (by simp [natCells]) ?_ ?_
    · intro j u hj
      have hj' : j < ns.length := by
        have := (List.getElem?_eq_some_iff.1 hj).1
        simpa [natCells] using this
      have e : (⟨g, 0, none⟩ : Addr).add j = ⟨g, j, none⟩ := by unfold Addr.add; split <;> simp_all
      rw [e, hc j hj']
      simpa [natCells, hj'] using hj
    · intro u hu
      obtain ⟨_, _, rfl⟩ := List.mem_map.1 hu
      rfl

/-- What the law makes of any number. -/
def small (z : Int) : Nat := (z.tmod 1099511627776).natAbs
theorem small_le (z : Int) : small z ≤ 1099511627775 := by
  unfold small
  rw [Int.natAbs_tmod]
  have : z.natAbs % (1099511627776 : Int).natAbs < (1099511627776 : Int).natAbs := Nat.mod_lt _ (by decide)
  have e : (1099511627776 : Int).natAbs = 1099511627776 := by decide
  omega
theorem small_pos {z : Int} (h : ¬ z.tmod 1099511627776 < 0) : z.tmod 1099511627776 = (small z : Nat) := by unfold small; omega
theorem small_neg {z : Int} (h : z.tmod 1099511627776 < 0) : -z.tmod 1099511627776 = (small z : Nat) := by unfold small; omega

theorem known_nums : getNums 2 [172, 2, 0] = ([300, 0], 0) := by
  refine getNums_ok ?_
  have e : encAll [300, 0] ++ [] = [172, 2, 0] := by
    simp only [encAll, List.flatMap_cons, List.flatMap_nil, List.append_nil]
    rw [enc_big (by decide), enc_small (n := 300 / 128) (by decide), enc_small (n := 0) (by decide)]
    rfl
  rw [← e]
  exact rdTimes_enc [300, 0] [] (by decide)

end Go.Proofs.Ytblmmbghnkplkaa

/-
  A configuration written: the writer's list and config, PutConfig; and the document's: the same bytes.
-/
namespace Go.Proofs.Ytblmmbghnkplkaa
open Go.RowKit

theorem not_below {b B k : Nat} {o : Obj} (hB : B ≤ b) (hk : k < B) : ¬ Wr b k o := by
  rintro (e | ⟨h, _⟩) <;> omega

def encNums (ns : List Nat) : List UInt8 := enc ns.length ++ encAll ns

/-- A configuration's bytes. -/
def encCfg (v n l : List Nat) : List UInt8 := encNums v ++ encNums n ++ encNums l
/-- Numbers that are small, and few. -/
structure Few (ns : List Nat) : Prop where
  le : ∀ n ∈ ns, n ≤ 1099511627775
  len : ns.length ≤ 1000
theorem Few.enc {ns : List Nat} (h : Few ns) : (encNums ns).length ≤ 6006 := by
  have h1 := encAll_len ns h.le
  have h2 := enc_len6 (n := ns.length) (by have := h.len; omega)
  have h3 := h.len
  simp only [encNums, List.length_append]
  omega

theorem Kept.belowWr {w w' : World} {o1 o2 : Obj} (h : Kept (Wr (w.heap.size + 1)) ((w.alloc o1).alloc o2) w') : Kept Nil w w' :=
  Kept.ofNew (((Kept.refl _ _).alloc _).alloc _) h (by rintro k o (rfl | ⟨hk, _⟩) <;> omega)

/-! ### a configuration that may be has few nodes -/
theorem rise_facts : ∀ (zs : List Int) (p : Int), 0 ≤ p → rise p zs = true → (∀ z ∈ zs, 1 ≤ z ∧ z ≤ 9 ∧ p < z) ∧ (p ≤ 9 → (zs.length : Int) ≤ 9 - p)
  | [], p, _, _ => ⟨fun z hz => by simp at hz, fun h => by simp; omega⟩
  | y :: t, p, hp, h => by
    simp only [rise, Bool.and_eq_true, decide_eq_true_eq, isNd] at h
    obtain ⟨⟨⟨h1, h2⟩, h3⟩, h4⟩ := h
    have ih := rise_facts t y (by omega) h4
    refine ⟨fun z hz => ?_, fun _ => ?_⟩
    · rcases List.mem_cons.1 hz with rfl | hz
      · exact ⟨h1, h2, h3⟩
      · have := ih.1 z hz
        exact ⟨this.1, this.2.1, by omega⟩
    · have := ih.2 h2
      simp only [List.length_cons]
      omega
def natsOf (zs : List Int) : List Nat := zs.map Int.toNat
theorem ints_nats {zs : List Int} (h : ∀ z ∈ zs, 0 ≤ z) : intsOf (natsOf zs) = zs := by
  unfold intsOf natsOf
  rw [List.map_map]
  refine (List.map_congr_left (g := id) fun z hz => ?_).trans (List.map_id _)
  have := h z hz
  show ((z.toNat : Nat) : Int) = z
  omega
theorem rise_few {zs : List Int} (h : rise 0 zs = true) : intsOf (natsOf zs) = zs ∧ Few (natsOf zs) ∧ zs.length ≤ 9 := by
  have hf := rise_facts zs 0 (by omega) h
  have h9 := hf.2 (by omega)
  refine ⟨ints_nats fun z hz => by have := hf.1 z hz; omega, ⟨fun n hn => ?_, by simp [natsOf]; omega⟩, by omega⟩
  obtain ⟨z, hz, rfl⟩ := List.mem_map.1 hn
  have := hf.1 z hz
  omega
theorem isCfg_facts {v n l : List Int} (h : isCfg v n l = true) : rise 0 v = true ∧ rise 0 n = true ∧ rise 0 l = true := by
  simp only [isCfg, Bool.and_eq_true] at h
  exact ⟨h.1.1.1.2, h.1.1.2, h.1.2⟩
def putCfg (v n l : List Int) : List UInt8 × Int := if isCfg v n l then (encCfg (natsOf v) (natsOf n) (natsOf l), 0) else ([], 8)
theorem natsOf_len (zs : List Int) : (natsOf zs).length = zs.length := by simp [natsOf]

/-! ### the document's -/
end Go.Proofs.Ytblmmbghnkplkaa

/-
  Rows copied (the law's ints and conf), and held against each other (the document's SameInts and SameConfig).
-/
namespace Go.Proofs.Ytblmmbghnkplkaa
open Go.RowKit

def intCells (zs : List Int) : List Value := zs.map fun z => Value.int .i64 z
theorem add_at (g j : Nat) : (⟨g, 0, none⟩ : Addr).add j = ⟨g, j, none⟩ := by unfold Addr.add; split <;> simp_all

theorem src_row {B c : Nat} {w : World} {ao : Option Addr} {zs : List Int} (h : IntRow B w ao zs) (hn : ao = none → c = 0 ∨ True) : Src Try.prog 1 22 (.slice ao zs.length c) zs.length (intCells zs) w := by
  have _ := hn
  cases ao with
  | none =>
    have hz : zs = [] := by
      cases zs with
      | nil => rfl
      | cons z t =>
        obtain ⟨a, ha, _⟩ := h 0 (by simp)
        cases ha
    subst hz
    exact Src.ofNil w Try.underlying22 c
  | some a =>
    refine Src.ofSlice w Try.underlying22 a zs.length c (intCells zs) (by simp [intCells]) ?_ ?_
    · intro j u hj
      have hj' : j < zs.length := by
        have := (List.getElem?_eq_some_iff.1 hj).1
        simpa [intCells] using this
      obtain ⟨a', ha, _, hc⟩ := h j hj'
      simp only [Option.some.injEq] at ha
      subst ha
      rw [hc]
      simpa [intCells, hj'] using hj
    · intro u hu
      obtain ⟨_, _, rfl⟩ := List.mem_map.1 hu
      rfl

theorem row_own {B n c : Nat} {w : World} {ao : Option Addr} {zs rest : List Int} (h : w.ownsRow B 3 1 (.slice ao n c) n (intCells (zs ++ rest))) : IntRow w.heap.size w ao zs := by
  intro j hj
  rcases h.2 with ⟨_, h0⟩ | ⟨g, cap, cur, hv, hB, hg, _⟩
  · have := h.1
    simp [intCells] at this
    omega
  · simp only [Value.slice.injEq, true_and] at hv
    obtain ⟨rfl, rfl⟩ := hv
    refine ⟨⟨g, 0, none⟩, rfl, lt_of_block hg, ?_⟩
    have hlen := h.1
    simp only [intCells, List.length_map, List.length_append, Nat.mul_one] at hlen
    rw [add_at, World.ownsRow.cellAt h j (by omega)]
    have hj2 : j < (zs.map fun z => Value.int .i64 z).length := by simpa using hj
    rw [intCells, List.map_append, List.getElem?_append_left hj2]
    simp [hj]

theorem own_cap {B n c : Nat} {w : World} {ao : Option Addr} {xs : List Value} (h : w.ownsRow B 3 1 (.slice ao (n + 1) c) (n + 1) xs) : ∃ g, ao = some ⟨g, 0, none⟩ ∧ n + 1 ≤ c := by
  rcases h.2 with ⟨_, h0⟩ | ⟨g, cap, cur, hv, _, _, hc, _⟩
  · omega
  · simp only [Value.slice.injEq, true_and] at hv
    obtain ⟨rfl, rfl⟩ := hv
    exact ⟨g, rfl, hc⟩

set_option maxRecDepth 100000 in
set_option maxHeartbeats 1000000 in
theorem ints_any (B cap : Nat) (ao : Option Addr) (zs : List Int) (w : World) (h : IntRow B w ao zs) (hl : (zs.length + 1) * 8 ≤ 140737488355328) :
    Calls Try.prog 11 #[.slice ao zs.length cap] w fun e w' => ∃ g c, e = .returned (.slice (some ⟨g, 0, none⟩) zs.length c) ∧ w'.ownsRow w.heap.size 3 1 (.slice (some ⟨g, 0, none⟩) (zs.length + 1) c) (zs.length + 1) (intCells (zs ++ [99])) ∧ Kept Nil w w' := by
  obtain ⟨i0, hi, hz0, hz1, hz2⟩ := info_parts Try.infoInt
  have HS : Hid (Src Try.prog 1 22 (.slice ao zs.length cap) zs.length (intCells zs) w) := src_row h (fun _ => .inr trivial)
  have HL : Hid ((0 + zs.length ≤ maxLen ∧ (0 + zs.length) * 8 ≤ 140737488355328) ∧ (zs.length + 1 ≤ maxLen ∧ (zs.length + 1) * 8 ≤ 140737488355328)) := by
    refine ⟨⟨?_, ?_⟩, ⟨?_, ?_⟩⟩ <;> (unfold maxLen at *; omega)
  have hl' : (zs.length : Int) ≤ 17592186044415 := by omega
  clear h hl
  go_enter Try.func11, Try.ntmps11
  have tA : True := trivial
  go_wp2_with (first | (at_builtin; have _t := tA; clear _t tA; go_must (refine wpList_append_src _ rfl _ _ 22 22 rfl w.heap.size 3 i0 (.int .i64 0) 1 8 Try.underlying22 hi hz0 hz1 hz2 rfl _ 0 [] rfl (World.ownsRow_nil _ _ _ _) (.slice ao zs.length cap) zs.length (intCells zs) rfl HS.out HL.out.1.1 HL.out.1.2 (Nat.le_refl _) ?_); intro a1 c1 w1 ho1 hg1; rw [Nat.zero_add, List.nil_append] at ho1; have HK1 : Hid (Kept Nil w w1) := (Kept.refl _ _).grown hg1 (fun k e => by cases e); clear hg1) | (at_builtin; go_must (refine wpList_append_src _ rfl _ _ 22 22 rfl w.heap.size 3 i0 (.int .i64 0) 1 8 Try.underlying22 hi hz0 hz1 hz2 rfl _ _ _ rfl (ho1.alloc _) (.slice (some ⟨w1.heap.size, 0, none⟩) 1 1) 1 [.int .i64 99] rfl (src_int _) HL.out.2.1 HL.out.2.2 (le_alloc HK1.out.size _) ?_); intro a2 c2 w2 ho2 hg2; have HK2 : Hid (Kept Nil w w2) := (HK1.out.alloc _).grown hg2 (own_row ho1); have HO2 : Hid _ := ho2; obtain ⟨g, rfl, hcap⟩ := own_cap ho2; clear hg2 ho2))
  go_ret
  refine ⟨g, c2, rfl, ?_, HK2.out⟩
  have e : intCells (zs ++ [99]) = intCells zs ++ [.int .i64 99] := by simp [intCells]
  rw [e]
  exact HO2.out

set_option maxRecDepth 100000 in
set_option maxHeartbeats 1000000 in
theorem refSameInts_any (B1 B2 c1 c2 : Nat) (a1 a2 : Option Addr) (ns ms : List Int) (w : World) (h1 : IntRow B1 w a1 ns) (h2 : IntRow B2 w a2 ms) (hl1 : (ns.length : Int) ≤ 9223372036854775807) (hl2 : (ms.length : Int) ≤ 9223372036854775807) :
    Calls Try.prog 20 #[.slice a1 ns.length c1, .slice a2 ms.length c2] w fun e w' => e = .returned (.bool (decide (ns = ms))) ∧ Kept Nil w w' := by
  by_cases hlen : ns.length = ms.length
  · have H1 : Hid (IntRow B1 w a1 ns) := h1
    have H2 : Hid (IntRow B2 w a2 ms) := h2
    clear h1 h2
    have hl : (ns.length : Int) = ms.length := by omega
    go_enter Try.func20, Try.ntmps20
    go_wp2
    go_loopw [5] (fun i wr => ∃ k : Nat, k ≤ ns.length ∧ i = .int .i64 k ∧ Hid (ns.take k = ms.take k) ∧ Hid (Kept Nil w wr)) (fun i _ => ns.length - (intOf i).toNat)
    case atStart => exact ⟨0, Nat.zero_le _, rfl, rfl, Kept.refl _ _⟩
    case round =>
      obtain ⟨k, hk, rfl, HT, HK⟩ := hrel
      by_cases hlt : k < ns.length
      · have hlt2 : k < ms.length := by omega
        obtain ⟨x1, rfl, _, e1⟩ := (H1.out.nil HK.out) k hlt
        obtain ⟨x2, rfl, _, e2⟩ := (H2.out.nil HK.out) k hlt2
        have HX : Hid (ns[k] = ms[k] → ns.take (k + 1) = ms.take (k + 1)) := fun h => by
          rw [List.take_succ_eq_append_getElem hlt, List.take_succ_eq_append_getElem hlt2, HT.out, h]
        have HY : Hid (ns[k] ≠ ms[k] → ns ≠ ms) := fun h e => by subst e; exact h rfl
        generalize ns[k] = x at e1 HX HY
        generalize ms[k] = y at e2 HX HY
        by_cases hxy : x = y
        · subst hxy
          have HT2 : Hid _ := HX.out rfl
          clear HX HY
          go_wp2
          go_region
          go_wp2
          go_roundw
          case rel => exact ⟨k + 1, by omega, by go_num, HT2, HK.out.drew⟩
          case measure => simp [intOf]; omega
        · have HN : Hid (decide (ns = ms) = false) := decide_eq_false (HY.out hxy)
          have hxy' : (x != y) = true := by simpa using hxy
          clear HX HY
          go_wp2
          go_region
          go_wp2
          go_ret
          rw [HN.out]
          exact ⟨rfl, HK.out.drew⟩
      · have HN : Hid (decide (ns = ms) = true) := by
          refine decide_eq_true ?_
          have := HT.out
          rwa [List.take_of_length_le (by omega), List.take_of_length_le (by omega)] at this
        go_wp2
        go_ret
        rw [HN.out]
        exact ⟨rfl, HK.out⟩
  · have HN : Hid (decide (ns = ms) = false) := decide_eq_false (fun e => hlen (by rw [e]))
    have hl : ((ns.length : Int) != (ms.length : Int)) = true := by simp; omega
    clear h1 h2 hlen
    go_enter Try.func20, Try.ntmps20
    go_wp2
    go_ret
    rw [HN.out]
    exact ⟨rfl, Kept.refl _ _⟩

set_option maxRecDepth 100000 in
set_option maxHeartbeats 1000000 in
/-- Two that have the same rows are the same. -/
theorem refSameConfig_yes (B1 B2 c1 c2 c3 d1 d2 d3 : Nat) (a1 a2 a3 b1 b2 b3 : Option Addr) (v n l : List Int) (w : World) (h1 : CfRows B1 w a1 a2 a3 v n l) (h2 : CfRows B2 w b1 b2 b3 v n l) (hl1 : (v.length : Int) ≤ 9223372036854775807) (hl2 : (n.length : Int) ≤ 9223372036854775807) (hl3 : (l.length : Int) ≤ 9223372036854775807) :
    Calls Try.prog 16 #[.agg #[.slice a1 v.length c1, .slice a2 n.length c2, .slice a3 l.length c3], .agg #[.slice b1 v.length d1, .slice b2 n.length d2, .slice b3 l.length d3]] w fun e w' => e = .returned (.bool true) ∧ Kept Nil w w' := by
  have S1 := fun w' (hk : Kept Nil w w') => refSameInts_any B1 B2 c1 d1 a1 b1 v v w' (h1.r1.nil hk) (h2.r1.nil hk) hl1 hl1
  have S2 := fun w' (hk : Kept Nil w w') => refSameInts_any B1 B2 c2 d2 a2 b2 n n w' (h1.r2.nil hk) (h2.r2.nil hk) hl2 hl2
  have S3 := fun w' (hk : Kept Nil w w') => refSameInts_any B1 B2 c3 d3 a3 b3 l l w' (h1.r3.nil hk) (h2.r3.nil hk) hl3 hl3
  rw [decide_eq_true rfl] at S1 S2 S3
  have HA : Hid (_) := blk_past (blk_new w (.cells #[.slice a1 v.length c1, .slice a2 n.length c2, .slice a3 l.length c3] 24)) (.cells #[.slice b1 v.length d1, .slice b2 n.length d2, .slice b3 l.length d3] 24)
  have HB : Hid (((w.alloc (.cells #[.slice a1 v.length c1, .slice a2 n.length c2, .slice a3 l.length c3] 24)).alloc (.cells #[.slice b1 v.length d1, .slice b2 n.length d2, .slice b3 l.length d3] 24)).heap[w.heap.size + 1]? = some (.cells #[.slice b1 v.length d1, .slice b2 n.length d2, .slice b3 l.length d3] 24 (0, 0))) := by
    have := blk_new (w.alloc (.cells #[.slice a1 v.length c1, .slice a2 n.length c2, .slice a3 l.length c3] 24)) (.cells #[.slice b1 v.length d1, .slice b2 n.length d2, .slice b3 l.length d3] 24)
    rwa [show (w.alloc (.cells #[.slice a1 v.length c1, .slice a2 n.length c2, .slice a3 l.length c3] 24)).heap.size = w.heap.size + 1 by simp] at this
  clear h1 h2 hl1 hl2 hl3
  go_enter Try.func16, Try.ntmps16
  go_wp2_with fail
  refine (S1 _ (((Kept.refl _ _).alloc _).alloc _)).mono ?_
  rintro e w1 ⟨rfl, k1⟩
  have K1 : Hid (Kept Nil w w1) := (((Kept.refl _ _).alloc _).alloc _).trans k1
  have A1 : Hid _ := k1.block _ _ HA.out (fun x => x.elim)
  have B1 : Hid _ := k1.block _ _ HB.out (fun x => x.elim)
  have p1 := blk_at A1.out 1 rfl
  have r1 := blk_at B1.out 1 rfl
  go_wp2_with fail
  refine (S2 _ K1.out).mono ?_
  rintro e w2 ⟨rfl, k2⟩
  have K2 : Hid (Kept Nil w w2) := K1.out.trans k2
  have A2 : Hid _ := k2.block _ _ A1.out (fun x => x.elim)
  have B2 : Hid _ := k2.block _ _ B1.out (fun x => x.elim)
  have p2 := blk_at A2.out 2 rfl
  have r2 := blk_at B2.out 2 rfl
  go_wp2_with fail
  refine (S3 _ K2.out).mono ?_
  rintro e w3 ⟨rfl, k3⟩
  go_wp2
  go_ret
  exact ⟨rfl, K2.out.trans k3⟩

end Go.Proofs.Ytblmmbghnkplkaa

/-
  Which snapshots may be, by the program and by the document's answer; a snapshot written by either.
-/
namespace Go.Proofs.Ytblmmbghnkplkaa
open Go.RowKit

def snOk (ix tm : Int) (v n l : List Int) (dt : List UInt8) : Bool := isCnt ix && isCnt tm && isCfg v n l && decide (dt.length ≤ 8192)

/-! ### written -/
def encSnap (ix tm : Nat) (v n l : List Nat) (dt : List UInt8) : List UInt8 := encAll [ix, tm] ++ encCfg v n l ++ encText dt
theorem Few.cfg {v n l : List Nat} (f1 : Few v) (f2 : Few n) (f3 : Few l) : (encCfg v n l).length ≤ 18018 := by
  have := f1.enc
  have := f2.enc
  have := f3.enc
  simp only [encCfg, List.length_append]
  omega

def putSnap (ix tm : Int) (v n l : List Int) (dt : List UInt8) : List UInt8 × Int := if snOk ix tm v n l dt then (encSnap ix.toNat tm.toNat (natsOf v) (natsOf n) (natsOf l) dt, 0) else ([], 6)
theorem snOk_facts {ix tm : Int} {v n l : List Int} {dt : List UInt8} (h : snOk ix tm v n l dt = true) : isCnt ix = true ∧ isCnt tm = true ∧ isCfg v n l = true ∧ dt.length ≤ 8192 := by
  simp only [snOk, Bool.and_eq_true, decide_eq_true_eq] at h
  exact ⟨h.1.1.1, h.1.1.2, h.1.2, h.2⟩

/-! ### the document's -/
end Go.Proofs.Ytblmmbghnkplkaa

/-
  Lists of texts and of pairs, results, sessions and tables, written by the program.
  Sessions, tables, written by the program.
  A table written by the program: writer.table, write, PutTable.
-/
namespace Go.Proofs.Ytblmmbghnkplkaa
open Go.RowKit

def catAll {α : Type} (f : α → List UInt8) (xs : List α) : List UInt8 := (xs.map f).flatten
theorem catAll_step {α : Type} (f : α → List UInt8) {xs : List α} {k : Nat} (h : k < xs.length) : catAll f (xs.take (k + 1)) = catAll f (xs.take k) ++ f xs[k] := by
  rw [List.take_succ_eq_append_getElem h]
  simp only [catAll, List.map_append, List.flatten_append, List.map_cons, List.map_nil, List.flatten_cons, List.flatten_nil, List.append_nil]
theorem catAll_le {α : Type} (f : α → List UInt8) (M : Nat) : ∀ (xs : List α), (∀ x ∈ xs, (f x).length ≤ M) → (catAll f xs).length ≤ M * xs.length
  | [], _ => by simp [catAll]
  | x :: t, h => by
    have h1 := h x (by simp)
    have h2 := catAll_le f M t (fun y hy => h y (by simp [hy]))
    simp only [catAll, List.map_cons, List.flatten_cons, List.length_append, List.length_cons] at h2 ⊢
    rw [Nat.mul_succ]
    omega
def encList {α : Type} (f : α → List UInt8) (xs : List α) : List UInt8 := enc xs.length ++ catAll f xs
theorem encList_le {α : Type} (f : α → List UInt8) (M : Nat) {xs : List α} (h : ∀ x ∈ xs, (f x).length ≤ M) (hl : xs.length ≤ 1000) : (encList f xs).length ≤ 6 + M * xs.length := by
  have h1 := catAll_le f M xs h
  have h2 := enc_len6 (n := xs.length) (by omega)
  simp only [encList, List.length_append]
  omega
theorem wInt_any (b : Nat) (x : Int) (l : List UInt8) (w : World) (h : WInv b w l) (hx : isNum x = true) (hl : l.length ≤ 1099511627775) :
    Calls Try.prog 178 #[.pointer (some ⟨b, 0, none⟩), .int .i64 x] w fun e w' => e = .returned (.tuple #[]) ∧ WInv b w' (l ++ enc x.toNat) ∧ Kept (Wr b) w w' := by
  obtain ⟨e, hm⟩ := isNum_nat hx
  have H := wNumber_any b x.toNat l w h hm hl
  rw [e] at H
  exact H

structure KFine (ks : List (List UInt8)) : Prop where
  le : ∀ x ∈ ks, x.length ≤ 16
  len : ks.length ≤ 32
theorem KFine.enc {ks : List (List UInt8)} (h : KFine ks) : (encList encText ks).length ≤ 710 := by
  have := encList_le encText 22 (xs := ks) (fun x hx => by have := h.le x hx; have := encText_len (l := x) (by omega); omega) (by have := h.len; omega)
  have := h.len
  omega
def encPr (p : Pr) : List UInt8 := encText p.k ++ encText p.v ++ enc p.n.toNat
structure PFine (p : Pr) : Prop where
  k : p.k.length ≤ 16
  v : p.v.length ≤ 64
  n : isNum p.n = true
theorem PFine.enc {p : Pr} (h : PFine p) : (encPr p).length ≤ 98 := by
  have h1 := h.k
  have h2 := h.v
  have h3 := enc_len6 (isNum_nat h.n).2
  have h4 := encText_len (l := p.k) (by omega)
  have h5 := encText_len (l := p.v) (by omega)
  simp only [encPr, List.length_append]
  omega
def encRs (kd : Int) (val : List UInt8) (ver : Int) (ks : List (List UInt8)) : List UInt8 := enc kd.toNat ++ encText val ++ enc ver.toNat ++ encList encText ks
def encSs (s : Ss) : List UInt8 := encAll [s.cl.toNat, s.ls.toNat, s.sn.toNat] ++ encRs s.kd s.val s.ver s.ks
structure SFine (s : Ss) : Prop where
  cl : isNum s.cl = true
  ls : isNum s.ls = true
  sn : isNum s.sn = true
  kd : isNum s.kd = true
  ver : isNum s.ver = true
  val : s.val.length ≤ 64
  ks : KFine s.ks
theorem encRs_le {kd ver : Int} {val : List UInt8} {ks : List (List UInt8)} (h1 : isNum kd = true) (h2 : isNum ver = true) (h3 : val.length ≤ 64) (h4 : KFine ks) : (encRs kd val ver ks).length ≤ 800 := by
  have g1 := enc_len6 (isNum_nat h1).2
  have g2 := enc_len6 (isNum_nat h2).2
  have g3 := encText_len (l := val) (by omega)
  have g4 := h4.enc
  simp only [encRs, List.length_append]
  omega
theorem SFine.enc {s : Ss} (h : SFine s) : (encSs s).length ≤ 818 := by
  have g := encRs_le h.kd h.ver h.val h.ks
  have g2 := encAll_len [s.cl.toNat, s.ls.toNat, s.sn.toNat] (by intro n hn; simp at hn; rcases hn with rfl | rfl | rfl; exact (isNum_nat h.cl).2; exact (isNum_nat h.ls).2; exact (isNum_nat h.sn).2)
  simp only [List.length_cons, List.length_nil] at g2
  simp only [encSs, List.length_append]
  omega

end Go.Proofs.Ytblmmbghnkplkaa

namespace Go.Proofs.Ytblmmbghnkplkaa
open Go.RowKit

end Go.Proofs.Ytblmmbghnkplkaa

namespace Go.Proofs.Ytblmmbghnkplkaa
open Go.RowKit

theorem StrRow.mono {B B' : Nat} {w : World} {ao : Option Addr} {ks : List (List UInt8)} (h : StrRow B w ao ks) (hB : B ≤ B') : StrRow B' w ao ks := fun j hj => by
  obtain ⟨a, ha, hb, hc⟩ := h j hj
  exact ⟨a, ha, by omega, hc⟩
theorem StrRow.full {B : Nat} {w : World} {ao : Option Addr} {ks : List (List UInt8)} (h : StrRow B w ao ks) : StrRow w.heap.size w ao ks := fun j hj => by
  obtain ⟨a, ha, hb, hc, hl⟩ := h j hj
  have := World.block_lt_of_cell? w _ hc
  rw [add_block] at this
  exact ⟨a, ha, this, hc, hl⟩
theorem PairRow.full {B : Nat} {w : World} {ao : Option Addr} {ps : List Pr} (h : PairRow B w ao ps) : PairRow w.heap.size w ao ps := fun j hj => by
  obtain ⟨a, ha, hb, hc, hl⟩ := h j hj
  have := World.block_lt_of_cell? w _ hc
  rw [add_block] at this
  exact ⟨a, ha, this, hc, hl⟩
theorem SessRow.full {B : Nat} {w : World} {ao : Option Addr} {ss : List Ss} (h : SessRow B w ao ss) : SessRow w.heap.size w ao ss := fun j hj => by
  obtain ⟨a, ao2, c2, ha, hb, c0, c1, c2', c3, c4, c5, c6, hs, l1, l2⟩ := h j hj
  have := World.block_lt_of_cell? w _ c0
  rw [add_block] at this
  exact ⟨a, ao2, c2, ha, this, c0, c1, c2', c3, c4, c5, c6, hs.full, l1, l2⟩

theorem kRise_fine : ∀ {p : Option (List UInt8)} {ks : List (List UInt8)}, kRise p ks = true → ∀ x ∈ ks, x.length ≤ 16
  | _, [], _, x, hx => by simp at hx
  | p, k :: t, h, x, hx => by
    simp only [kRise, Bool.and_eq_true, decide_eq_true_eq] at h
    rcases List.mem_cons.mp hx with rfl | hx
    · exact h.1.1
    · exact kRise_fine h.2 x hx
theorem keysOk_fine {ks : List (List UInt8)} (h : keysOk ks = true) : KFine ks := by
  simp only [keysOk, Bool.and_eq_true, decide_eq_true_eq] at h
  exact ⟨kRise_fine h.2, h.1⟩
theorem isCnt_num {x : Int} (h : isCnt x = true) : isNum x = true := by
  simp only [isCnt, isNum, Bool.and_eq_true, decide_eq_true_eq] at h ⊢
  omega
theorem pRise_fine : ∀ {p : Option (List UInt8)} {ps : List Pr}, pRise p ps = true → ∀ x ∈ ps, PFine x
  | _, [], _, x, hx => by simp at hx
  | p, k :: t, h, x, hx => by
    simp only [pRise, prOk, Bool.and_eq_true, decide_eq_true_eq] at h
    rcases List.mem_cons.mp hx with rfl | hx
    · exact ⟨h.1.1.1.1.2, h.1.1.1.2, isCnt_num h.1.1.2⟩
    · exact pRise_fine h.2 x hx
theorem sRise_fine {tm : Int} : ∀ {p : Option Int} {ss : List Ss}, sRise tm p ss = true → ∀ x ∈ ss, SFine x
  | _, [], _, x, hx => by simp at hx
  | p, k :: t, h, x, hx => by
    simp only [sRise, ssOk, ssRs, rsOk, Bool.and_eq_true, decide_eq_true_eq] at h
    rcases List.mem_cons.mp hx with rfl | hx
    · obtain ⟨⟨⟨⟨⟨h1, h2, h3⟩, _⟩, ⟨⟨⟨h5, h6⟩, h7⟩, h8⟩⟩, _⟩, _⟩ := h
      exact ⟨isCnt_num h1, h2, h3, by simp only [isNum, Bool.and_eq_true, decide_eq_true_eq]; omega, h7, h6, keysOk_fine h8⟩
    · exact sRise_fine h.2 x hx

def encTab (tm : Int) (ps : List Pr) (ss : List Ss) : List UInt8 := enc tm.toNat ++ encList encPr ps ++ encList encSs ss
structure TFine (tm : Int) (ps : List Pr) (ss : List Ss) : Prop where
  ht : isNum tm = true
  hps : ∀ p ∈ ps, PFine p
  pl : ps.length ≤ 32
  hss : ∀ s ∈ ss, SFine s
  sl : ss.length ≤ 8
theorem tabOk_fine {tm : Int} {ps : List Pr} {ss : List Ss} (h : tabOk tm ps ss = true) : TFine tm ps ss := by
  simp only [tabOk, pairsOk, Bool.and_eq_true, decide_eq_true_eq] at h
  exact ⟨h.1.1.1, pRise_fine h.1.1.2.2, h.1.1.2.1, sRise_fine h.2, h.1.2⟩
theorem TFine.pe {tm : Int} {ps : List Pr} {ss : List Ss} (h : TFine tm ps ss) : (encList encPr ps).length ≤ 4000 := by
  have := encList_le encPr 98 (xs := ps) (fun x hx => (h.hps x hx).enc) (by have := h.pl; omega)
  have := h.pl
  omega

def putTab (tm : Int) (ps : List Pr) (ss : List Ss) : List UInt8 × Int := if tabOk tm ps ss then (encTab tm ps ss, 0) else ([], 6)
end Go.Proofs.Ytblmmbghnkplkaa
