/-
  Which configurations may be: the program's Valid (Votes, ContainsFunc with its own function) and the document's IsConfig: the same plain answer.
-/
import Derived.Test.YtijklginabipgaaWCfg1
namespace Go.Proofs.Ytijklginabipgaa
open Go.RowKit

def vot (v n : List Int) (z : Int) : Bool := hasZ v z || hasZ n z
def isCfg (v n l : List Int) : Bool := !v.isEmpty && rise 0 v && rise 0 n && rise 0 l && !l.any (vot v n)
/-- A configuration's three rows. -/
structure CfRows (B : Nat) (w : World) (a1 a2 a3 : Option Addr) (v n l : List Int) : Prop where
  r1 : IntRow B w a1 v
  r2 : IntRow B w a2 n
  r3 : IntRow B w a3 l
theorem CfRows.nil {B : Nat} {w w' : World} {a1 a2 a3 : Option Addr} {v n l : List Int} (h : CfRows B w a1 a2 a3 v n l) (hk : Kept Nil w w') : CfRows B w' a1 a2 a3 v n l := ⟨h.r1.nil hk, h.r2.nil hk, h.r3.nil hk⟩
theorem CfRows.kept {X : Nat → Obj → Prop} {B : Nat} {w w' : World} {a1 a2 a3 : Option Addr} {v n l : List Int} (h : CfRows B w a1 a2 a3 v n l) (hk : Kept X w w') (hX : ∀ k o, k < B → ¬ X k o) : CfRows B w' a1 a2 a3 v n l := ⟨h.r1.kept hk hX, h.r2.kept hk hX, h.r3.kept hk hX⟩
theorem CfRows.alloc {B : Nat} {w : World} {a1 a2 a3 : Option Addr} {v n l : List Int} (h : CfRows B w a1 a2 a3 v n l) (o : Obj) : CfRows B (w.alloc o) a1 a2 a3 v n l := h.nil ((Kept.refl _ _).alloc o)
theorem CfRows.full {B : Nat} {w : World} {a1 a2 a3 : Option Addr} {v n l : List Int} (h : CfRows B w a1 a2 a3 v n l) : CfRows w.heap.size w a1 a2 a3 v n l := ⟨h.r1.full, h.r2.full, h.r3.full⟩

set_option maxRecDepth 100000 in
set_option maxHeartbeats 1000000 in
theorem votes_any (B c1 c2 c3 : Nat) (a1 a2 a3 : Option Addr) (v n l : List Int) (z : Int) (w : World) (h : CfRows B w a1 a2 a3 v n l) (h1 : (v.length : Int) ≤ 9223372036854775807) (h2 : (n.length : Int) ≤ 9223372036854775807) :
    Calls Try.prog 26 #[.agg #[.slice a1 v.length c1, .slice a2 n.length c2, .slice a3 l.length c3], .int .i64 z] w fun e w' => e = .returned (.bool (vot v n z)) ∧ Kept Nil w w' := by
  have C1 := contains_any B c1 a1 v z _ (h.r1.alloc (.cells #[.slice a1 v.length c1, .slice a2 n.length c2, .slice a3 l.length c3] 24)) h1
  have C2 := contains_any B c2 a2 n z _ (h.r2.alloc (.cells #[.slice a1 v.length c1, .slice a2 n.length c2, .slice a3 l.length c3] 24)) h2
  have HV : Hid (vot v n z = (hasZ v z || hasZ n z)) := rfl
  generalize hasZ v z = b1 at *
  generalize hasZ n z = b2 at *
  clear h h1 h2
  cases b1 with
  | true =>
    go_enter Try.func26, Try.ntmps26
    go_wp2_with fail
    refine C1.mono ?_
    rintro e w1 ⟨rfl, rfl⟩
    go_wp2
    go_ret
    rw [HV.out]
    exact ⟨rfl, (Kept.refl _ _).alloc _⟩
  | false =>
    go_enter Try.func26, Try.ntmps26
    go_wp2_with fail
    refine C1.mono ?_
    rintro e w1 ⟨rfl, hw1⟩
    rw [← hw1] at C2
    have K1 : Hid (Kept Nil w w1) := by rw [hw1]; exact (Kept.refl _ _).alloc _
    have hb : w1.heap[w.heap.size]? = some (.cells #[.slice a1 v.length c1, .slice a2 n.length c2, .slice a3 l.length c3] 24 (0, 0)) := by rw [hw1]; exact blk_new _ _
    have q1 : w1.cell? ⟨w.heap.size, 1, none⟩ = some (.slice a2 n.length c2) := blk_cell hb 1
    clear hw1 hb
    go_wp2_with fail
    refine C2.mono ?_
    rintro e w2 ⟨rfl, rfl⟩
    go_wp2
    go_ret
    rw [HV.out]
    exact ⟨rfl, K1.out⟩

def idxF (p : Int → Bool) : Nat → List Int → Int
  | _, [] => -1
  | k, y :: t => if p y then k else idxF p (k + 1) t
theorem idxF_at {zs : List Int} {p : Int → Bool} {k : Nat} (h : k < zs.length) : idxF p k (zs.drop k) = if p zs[k] then (k : Int) else idxF p (k + 1) (zs.drop (k + 1)) := by
  rw [List.drop_eq_getElem_cons h]
  rfl
theorem idxF_any (p : Int → Bool) : ∀ (zs : List Int) (k : Nat), decide (0 ≤ idxF p k zs) = zs.any p
  | [], k => rfl
  | y :: t, k => by
    unfold idxF
    cases h : p y with
    | true => simp [h]
    | false => rw [if_neg (by decide), idxF_any p t (k + 1), List.any_cons, h, Bool.false_or]

set_option maxRecDepth 100000 in
set_option maxHeartbeats 1000000 in
theorem validF_any (B C c1 c2 c3 : Nat) (a1 a2 a3 : Option Addr) (v n l : List Int) (z : Int) (w : World) (h : CfRows B w a1 a2 a3 v n l) (hb : w.heap[C]? = some (.cells #[.slice a1 v.length c1, .slice a2 n.length c2, .slice a3 l.length c3] 24 (0, 0)))
    (h1 : (v.length : Int) ≤ 9223372036854775807) (h2 : (n.length : Int) ≤ 9223372036854775807) :
    Calls Try.prog 73 #[.int .i64 z, .pointer (some ⟨C, 0, none⟩)] w fun e w' => e = .returned (.bool (vot v n z)) ∧ Kept Nil w w' := by
  have H := votes_any B c1 c2 c3 a1 a2 a3 v n l z w h h1 h2
  have q0 : w.cell? ⟨C, 0, none⟩ = some (.slice a1 v.length c1) := blk_cell hb 0
  have q1 : w.cell? ⟨C, 1, none⟩ = some (.slice a2 n.length c2) := blk_cell hb 1
  have q2 : w.cell? ⟨C, 2, none⟩ = some (.slice a3 l.length c3) := blk_cell hb 2
  clear h hb h1 h2
  go_enter Try.func73, Try.ntmps73
  go_wp2_with fail
  refine H.mono ?_
  rintro e w1 ⟨rfl, hk⟩
  go_wp2
  go_ret
  exact ⟨rfl, hk⟩

set_option maxRecDepth 100000 in
set_option maxHeartbeats 1000000 in
theorem indexF_any (B C c1 c2 c3 : Nat) (a1 a2 a3 : Option Addr) (v n l : List Int) (w : World) (h : CfRows B w a1 a2 a3 v n l) (hb : w.heap[C]? = some (.cells #[.slice a1 v.length c1, .slice a2 n.length c2, .slice a3 l.length c3] 24 (0, 0)))
    (h1 : (v.length : Int) ≤ 9223372036854775807) (h2 : (n.length : Int) ≤ 9223372036854775807) (h3 : (l.length : Int) ≤ 9223372036854775807) :
    Calls Try.prog 138 #[.slice a3 l.length c3, .func (.func 73) #[] #[.pointer (some ⟨C, 0, none⟩)]] w fun e w' => e = .returned (.int .i64 (idxF (vot v n) 0 l)) ∧ Kept Nil w w' := by
  have HR : Hid (CfRows B w a1 a2 a3 v n l) := h
  have HC : Hid (_) := hb
  clear h hb
  go_enter Try.func138, Try.ntmps138
  go_wp2
  go_loopw [8] (fun i wr => ∃ k : Nat, k ≤ l.length ∧ i = .int .i64 k ∧ Hid (idxF (vot v n) 0 l = idxF (vot v n) k (l.drop k)) ∧ Hid (Kept Nil w wr)) (fun i _ => l.length - (intOf i).toNat)
  case atStart => exact ⟨0, Nat.zero_le _, rfl, rfl, Kept.refl _ _⟩
  case round =>
    obtain ⟨k, hk, rfl, HI, HK⟩ := hrel
    by_cases hlt : k < l.length
    · obtain ⟨a, rfl, _, hcell⟩ := (HR.out.nil HK.out).r3 k hlt
      have F := validF_any B C c1 c2 c3 a1 a2 (some a) v n l l[k] wr (HR.out.nil HK.out) (HK.out.block _ _ HC.out (fun x => x.elim)) h1 h2
      have HA : Hid (idxF (vot v n) 0 l = if vot v n l[k] then (k : Int) else idxF (vot v n) (k + 1) (l.drop (k + 1))) := HI.out.trans (idxF_at hlt)
      generalize l[k] = z at *
      cases hz : vot v n z with
      | true =>
        rw [hz] at F
        have HF : Hid (idxF (vot v n) 0 l = k) := HA.out.trans (if_pos hz)
        clear hz HA HI
        go_wp2_with fail
        refine F.mono ?_
        rintro e w1 ⟨rfl, hk1⟩
        go_wp2
        go_ret
        rw [HF.out]
        exact ⟨rfl, HK.out.trans hk1⟩
      | false =>
        rw [hz] at F
        have HF : Hid (idxF (vot v n) 0 l = idxF (vot v n) (k + 1) (l.drop (k + 1))) := HA.out.trans (if_neg (by rw [hz]; decide))
        clear hz HA HI
        go_wp2_with fail
        refine F.mono ?_
        rintro e w1 ⟨rfl, hk1⟩
        go_wp2
        go_roundw
        case rel => exact ⟨k + 1, by omega, by go_num, HF, HK.out.trans hk1⟩
        case measure => simp [intOf]; omega
    · have HF : Hid (idxF (vot v n) 0 l = -1) := by show idxF (vot v n) 0 l = -1; rw [HI.out, List.drop_of_length_le (by omega)]; rfl
      go_wp2
      go_ret
      rw [HF.out]
      exact ⟨rfl, HK.out⟩

def anyV (v n l : List Int) : Bool := l.any (vot v n)
set_option maxRecDepth 100000 in
theorem containsF_any (B C c1 c2 c3 : Nat) (a1 a2 a3 : Option Addr) (v n l : List Int) (w : World) (h : CfRows B w a1 a2 a3 v n l) (hb : w.heap[C]? = some (.cells #[.slice a1 v.length c1, .slice a2 n.length c2, .slice a3 l.length c3] 24 (0, 0)))
    (h1 : (v.length : Int) ≤ 9223372036854775807) (h2 : (n.length : Int) ≤ 9223372036854775807) (h3 : (l.length : Int) ≤ 9223372036854775807) :
    Calls Try.prog 74 #[.slice a3 l.length c3, .func (.func 73) #[] #[.pointer (some ⟨C, 0, none⟩)]] w fun e w' => e = .returned (.bool (anyV v n l)) ∧ Kept Nil w w' := by
  have H := indexF_any B C c1 c2 c3 a1 a2 a3 v n l w h hb h1 h2 h3
  have HP : Hid (decide (0 ≤ idxF (vot v n) 0 l) = anyV v n l) := idxF_any (vot v n) l 0
  generalize idxF (vot v n) 0 l = p at *
  clear h hb h1 h2 h3
  rw [← HP.out]
  go_enter Try.func74, Try.ntmps74
  go_wp2_with fail
  refine H.mono ?_
  rintro e w1 ⟨rfl, hk⟩
  go_wp2
  go_ret
  exact ⟨rfl, hk⟩

theorem isCfg_eq (v n l : List Int) : isCfg v n l = (!v.isEmpty && rise 0 v && rise 0 n && rise 0 l && !anyV v n l) := rfl

set_option maxRecDepth 100000 in
set_option maxHeartbeats 2000000 in
theorem valid_any (B c1 c2 c3 : Nat) (a1 a2 a3 : Option Addr) (v n l : List Int) (w : World) (h : CfRows B w a1 a2 a3 v n l) (h1 : (v.length : Int) ≤ 9223372036854775807) (h2 : (n.length : Int) ≤ 9223372036854775807) (h3 : (l.length : Int) ≤ 9223372036854775807) :
    Calls Try.prog 20 #[.agg #[.slice a1 v.length c1, .slice a2 n.length c2, .slice a3 l.length c3]] w fun e w' => e = .returned (.bool (isCfg v n l)) ∧ Kept Nil w w' := by
  have hmf : ∀ (fn : Fn) (first cap : Array Value) (w : World), (Instr.makeFunc fn first cap).run Try.prog w = .ok (.func fn first cap) w := fun _ _ _ _ => rfl
  have hA := h.alloc (.cells #[.slice a1 v.length c1, .slice a2 n.length c2, .slice a3 l.length c3] 24)
  have A1 := areNodes_any B c1 a1 v _ hA.r1 h1
  have A2 := areNodes_any B c2 a2 n _ hA.r2 h2
  have A3 := areNodes_any B c3 a3 l _ hA.r3 h3
  have F := containsF_any B w.heap.size c1 c2 c3 a1 a2 a3 v n l _ hA (blk_new w _) h1 h2 h3
  have HE : Hid (isCfg v n l = (!v.isEmpty && rise 0 v && rise 0 n && rise 0 l && !anyV v n l)) := isCfg_eq v n l
  generalize anyV v n l = b4 at *
  generalize rise 0 v = b1 at *
  generalize rise 0 n = b2 at *
  generalize rise 0 l = b3 at *
  clear h hA
  cases hv : v.isEmpty with
  | true =>
    have hl : (v.length : Int) ≤ 0 := by rw [List.isEmpty_iff] at hv; rw [hv]; simp
    have hl2 : ((v.length : Int) == 0) = true := by simp; exact List.isEmpty_iff.1 hv
    have HF : Hid (isCfg v n l = false) := by show isCfg v n l = false; rw [HE.out, hv]; rfl
    clear hv HE
    go_enter Try.func20, Try.ntmps20
    go_wp2
    go_ret
    rw [HF.out]
    exact ⟨rfl, (Kept.refl _ _).alloc _⟩
  | false =>
    have hl2 : ((v.length : Int) == 0) = false := by
      cases v with
      | nil => cases hv
      | cons y t => simp; omega
    have HF : Hid (isCfg v n l = (b1 && b2 && b3 && !b4)) := by show isCfg v n l = _; rw [HE.out, hv]; simp
    clear hv HE
    rw [HF.out]
    cases b1 with
    | false =>
      go_enter Try.func20, Try.ntmps20
      go_wp2_with fail
      refine A1.mono ?_
      rintro e w1 ⟨rfl, rfl⟩
      go_wp2
      go_ret
      exact ⟨rfl, (Kept.refl _ _).alloc _⟩
    | true =>
      cases b2 with
      | false =>
        go_enter Try.func20, Try.ntmps20
        go_wp2_with fail
        refine A1.mono ?_
        rintro e w1 ⟨rfl, rfl⟩
        go_wp2_with fail
        refine A2.mono ?_
        rintro e w1 ⟨rfl, rfl⟩
        go_wp2
        go_ret
        exact ⟨rfl, (Kept.refl _ _).alloc _⟩
      | true =>
        cases b3 with
        | false =>
          go_enter Try.func20, Try.ntmps20
          go_wp2_with fail
          refine A1.mono ?_
          rintro e w1 ⟨rfl, rfl⟩
          go_wp2_with fail
          refine A2.mono ?_
          rintro e w1 ⟨rfl, rfl⟩
          go_wp2_with fail
          refine A3.mono ?_
          rintro e w1 ⟨rfl, rfl⟩
          go_wp2
          go_ret
          exact ⟨rfl, (Kept.refl _ _).alloc _⟩
        | true =>
          go_enter Try.func20, Try.ntmps20
          go_wp2_with fail
          refine A1.mono ?_
          rintro e w1 ⟨rfl, rfl⟩
          go_wp2_with fail
          refine A2.mono ?_
          rintro e w1 ⟨rfl, rfl⟩
          go_wp2_with fail
          refine A3.mono ?_
          rintro e w1 ⟨rfl, rfl⟩
          go_wp2_with fail
          refine F.mono ?_
          rintro e w1 ⟨rfl, hk⟩
          go_wp2
          go_ret
          exact ⟨rfl, ((Kept.refl _ _).alloc _).trans hk⟩

/-! ### the document's -/
set_option maxRecDepth 100000 in
set_option maxHeartbeats 4000000 in
theorem refIsConfig_any (B c1 c2 c3 : Nat) (a1 a2 a3 : Option Addr) (v n l : List Int) (w : World) (h : CfRows B w a1 a2 a3 v n l) (h1 : (v.length : Int) ≤ 9223372036854775807) (h2 : (n.length : Int) ≤ 9223372036854775807) (h3 : (l.length : Int) ≤ 9223372036854775807) :
    Calls Try.prog 21 #[.agg #[.slice a1 v.length c1, .slice a2 n.length c2, .slice a3 l.length c3]] w fun e w' => e = .returned (.bool (isCfg v n l)) ∧ Kept Nil w w' := by
  have HR : Hid (CfRows B w a1 a2 a3 v n l) := h
  have A1 := fun w h => refRising_any B c1 a1 v w h h1
  have A2 := fun w h => refRising_any B c2 a2 n w h h2
  have A3 := fun w h => refRising_any B c3 a3 l w h h3
  have HE : Hid (isCfg v n l = (!v.isEmpty && rise 0 v && rise 0 n && rise 0 l && !anyV v n l)) := isCfg_eq v n l
  have HB0 : Hid (_) := blk_new w (.cells #[.slice a1 v.length c1, .slice a2 n.length c2, .slice a3 l.length c3] 24)
  have HK0 : Hid (Kept Nil w (w.alloc (.cells #[.slice a1 v.length c1, .slice a2 n.length c2, .slice a3 l.length c3] 24))) := (Kept.refl _ _).alloc _
  generalize rise 0 v = b1 at *
  generalize rise 0 n = b2 at *
  generalize rise 0 l = b3 at *
  clear h
  go_enter Try.func21, Try.ntmps21
  go_wp2_with fail
  refine (A1 _ (HR.out.nil HK0.out).r1).mono ?_
  rintro e w1 ⟨rfl, k1⟩
  have HB1 : Hid (_) := k1.block _ _ HB0.out (fun x => x.elim)
  have HK1 : Hid (Kept Nil w w1) := HK0.out.trans k1
  have q1 := blk_cell HB1.out 1
  simp only [List.getElem?_toArray, List.getElem?_cons_zero, List.getElem?_cons_succ] at q1
  clear HB0 HK0 k1
  go_wp2_with fail
  refine (A2 _ (HR.out.nil HK1.out).r2).mono ?_
  rintro e w2 ⟨rfl, k2⟩
  have HB2 : Hid (_) := k2.block _ _ HB1.out (fun x => x.elim)
  have HK2 : Hid (Kept Nil w w2) := HK1.out.trans k2
  have q2 := blk_cell HB2.out 2
  simp only [List.getElem?_toArray, List.getElem?_cons_zero, List.getElem?_cons_succ] at q2
  clear HB1 HK1 k2
  go_wp2_with fail
  refine (A3 _ (HR.out.nil HK2.out).r3).mono ?_
  rintro e w3 ⟨rfl, k3⟩
  have HB3 : Hid (_) := k3.block _ _ HB2.out (fun x => x.elim)
  have HK3 : Hid (Kept Nil w w3) := HK2.out.trans k3
  have q0 := blk_cell HB3.out 0
  simp only [List.getElem?_toArray, List.getElem?_cons_zero] at q0
  clear HB2 HK2 k3 A1 A2 A3 q1 q2
  cases hv : v.isEmpty with
  | true =>
    have hl2 : ((v.length : Int) == 0) = true := by simp; exact List.isEmpty_iff.1 hv
    have HF : Hid (isCfg v n l = false) := by show isCfg v n l = false; rw [HE.out, hv]; rfl
    clear hv HE
    go_wp2
    go_ret
    rw [HF.out]
    exact ⟨rfl, HK3.out⟩
  | false =>
    have hl2 : ((v.length : Int) == 0) = false := by
      cases v with
      | nil => cases hv
      | cons y t => simp; omega
    have HF : Hid (isCfg v n l = (b1 && b2 && b3 && !anyV v n l)) := by show isCfg v n l = _; rw [HE.out, hv]; simp
    clear hv HE
    by_cases hbb : b1 = true ∧ b2 = true ∧ b3 = true
    · obtain ⟨rfl, rfl, rfl⟩ := hbb
      have HF : Hid (isCfg v n l = !anyV v n l) := by show isCfg v n l = _; rw [HF.out]; simp
      go_wp2
      go_loopw [6] (fun i wr => ∃ k : Nat, k ≤ l.length ∧ i = .int .i64 k ∧ Hid (anyV v n l = (l.drop k).any (vot v n)) ∧ Hid (wr.heap[w.heap.size]? = some (.cells #[.slice a1 v.length c1, .slice a2 n.length c2, .slice a3 l.length c3] 24 (0, 0))) ∧ Hid (Kept Nil w wr)) (fun i _ => l.length - (intOf i).toNat)
      case atStart => exact ⟨0, Nat.zero_le _, rfl, rfl, HB3.out, HK3.out⟩
      case round =>
        obtain ⟨k, hk, rfl, HI, HB, HK⟩ := hrel
        clear HB3 HK3 q0
        have q0 := blk_cell HB.out 0
        have q1 := blk_cell HB.out 1
        have q2 := blk_cell HB.out 2
        simp only [List.getElem?_toArray, List.getElem?_cons_zero, List.getElem?_cons_succ] at q0 q1 q2
        have hR := HR.out.nil HK.out
        by_cases hlt : k < l.length
        · obtain ⟨a, rfl, _, hcell⟩ := hR.r3 k hlt
          have HA : Hid (anyV v n l = (vot v n l[k] || (l.drop (k + 1)).any (vot v n))) := by show anyV v n l = _; rw [HI.out, List.drop_eq_getElem_cons hlt, List.any_cons]
          have hki : (k : Int) < l.length := by omega
          have Q1 := fun m => refHas_any B c1 a1 v l[k] (wr.drewN m) (hR.r1.nil ((Kept.refl _ _).drewN _)) h1
          have Q2 := fun (wd : World) (m : Nat) (hk : Kept Nil wr wd) => refHas_any B c2 a2 n l[k] (wd.drewN m) (hR.r2.nil (hk.drewN _)) h2
          have hvt : vot v n l[k] = (hasZ v l[k] || hasZ n l[k]) := rfl
          generalize l[k] = z at *
          rw [hvt] at HA
          generalize hasZ v z = d1 at *
          generalize hasZ n z = d2 at *
          clear hvt hR
          go_wp2
          go_quiet (first | (go_at_call 67; exact Calls.quiet_of_same (Q1 _)))
          generalize hwd : wr.drewN _ = wd
          have HKd : Hid (Kept Nil w wd) := by rw [← hwd]; exact HK.out.drewN _
          have HBd : Hid (wd.heap[w.heap.size]? = some (.cells #[.slice a1 v.length c1, .slice a2 n.length c2, .slice (some a) l.length c3] 24 (0, 0))) := by rw [← hwd]; exact HB.out
          have Q3 := fun m => Q2 wd m (by rw [← hwd]; exact (Kept.refl _ _).drewN _)
          have q0 := blk_cell HBd.out 0
          have q1 := blk_cell HBd.out 1
          have q2 := blk_cell HBd.out 2
          simp only [List.getElem?_toArray, List.getElem?_cons_zero, List.getElem?_cons_succ] at q0 q1 q2
          have hcell : wd.cell? (a.add k) = some (.int .i64 z) := by rw [← hwd]; exact hcell
          clear hwd Q2 Q1 HK HB
          go_wp2
          go_quiet (first | (go_at_call 67; exact Calls.quiet_of_same (Q3 _)))
          cases d1 with
          | true =>
            have HX : Hid (isCfg v n l = false) := by show isCfg v n l = false; rw [HF.out, HA.out]; rfl
            go_wp2
            go_ret
            rw [HX.out]
            exact ⟨rfl, HKd.out.drewN _⟩
          | false =>
            cases d2 with
            | true =>
              have HX : Hid (isCfg v n l = false) := by show isCfg v n l = false; rw [HF.out, HA.out]; rfl
              go_wp2
              go_ret
              rw [HX.out]
              exact ⟨rfl, HKd.out.drewN _⟩
            | false =>
              have HX : Hid (anyV v n l = (l.drop (k + 1)).any (vot v n)) := by show anyV v n l = _; rw [HA.out]; rfl
              go_wp2
              go_roundw
              case rel => exact ⟨k + 1, by omega, by go_num, HX, HBd.out, HKd.out.drewN _⟩
              case measure => simp [intOf]; omega
        · have HX : Hid (isCfg v n l = true) := by show isCfg v n l = true; rw [HF.out, HI.out, List.drop_of_length_le (by omega)]; rfl
          go_wp2
          go_ret
          rw [HX.out]
          exact ⟨rfl, HK.out⟩
    · have HX : Hid (isCfg v n l = false) := by
        show isCfg v n l = false
        rw [HF.out]
        cases b1 <;> cases b2 <;> cases b3 <;> simp_all
      cases b1 with
      | false =>
        go_wp2
        go_ret
        rw [HX.out]
        exact ⟨rfl, HK3.out⟩
      | true =>
        cases b2 with
        | false =>
          go_wp2
          go_ret
          rw [HX.out]
          exact ⟨rfl, HK3.out⟩
        | true =>
          cases b3 with
          | false =>
            go_wp2
            go_ret
            rw [HX.out]
            exact ⟨rfl, HK3.out⟩
          | true => exact absurd ⟨rfl, rfl, rfl⟩ hbb

end Go.Proofs.Ytijklginabipgaa
