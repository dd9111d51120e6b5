/-
  Which configurations may be: the program's Valid (Votes, ContainsFunc with its own function) and the document's IsConfig: the same plain answer.
-/
import Derived.Test.YtijklginabipgaaGreatWCfg1
namespace Go.Proofs.YtijklginabipgaaGreat
open Go.RowKit

def vot (v n : List Int) (z : Int) : Bool := hasZ v z || hasZ n z
def isCfg (v n l : List Int) : Bool := !v.isEmpty && rise 0 v && rise 0 n && rise 0 l && !l.any (vot v n)
/-- A configuration's three rows. -/
structure CfRows (B : Nat) (w : World) (a1 a2 a3 : Option Addr) (v n l : List Int) : Prop where
  r1 : IntRow B w a1 v
  r2 : IntRow B w a2 n
  r3 : IntRow B w a3 l
theorem CfRows.nil {B : Nat} {w w' : World} {a1 a2 a3 : Option Addr} {v n l : List Int} (h : CfRows B w a1 a2 a3 v n l) (hk : Kept Nil w w') : CfRows B w' a1 a2 a3 v n l := ⟨h.r1.nil hk, h.r2.nil hk, h.r3.nil hk⟩
theorem CfRows.kept {X : Nat → Obj → Prop} {B : Nat} {w w' : World} {a1 a2 a3 : Option Addr} {v n l : List Int} (h : CfRows B w a1 a2 a3 v n l) (hk : Kept X w w') (hX : ∀ k o, k < B → ¬ X k o) : CfRows B w' a1 a2 a3 v n l := ⟨h.r1.kept hk hX, h.r2.kept hk hX, h.r3.kept hk hX⟩
theorem CfRows.alloc {B : Nat} {w : World} {a1 a2 a3 : Option Addr} {v n l : List Int} (h : CfRows B w a1 a2 a3 v n l) (o : Obj) : CfRows B (w.alloc o) a1 a2 a3 v n l := h.nil ((Kept.refl _ _).alloc o)
theorem CfRows.full {B : Nat} {w : World} {a1 a2 a3 : Option Addr} {v n l : List Int} (h : CfRows B w a1 a2 a3 v n l) : CfRows w.heap.size w a1 a2 a3 v n l := ⟨h.r1.full, h.r2.full, h.r3.full⟩

set_option maxRecDepth 100000 in
set_option maxHeartbeats 1000000 in
theorem votes_any (B c1 c2 c3 : Nat) (a1 a2 a3 : Option Addr) (v n l : List Int) (z : Int) (w : World) (h : CfRows B w a1 a2 a3 v n l) (h1 : (v.length : Int) ≤ 9223372036854775807) (h2 : (n.length : Int) ≤ 9223372036854775807) :
    Calls Tryz.prog 62 #[.agg #[.slice a1 v.length c1, .slice a2 n.length c2, .slice a3 l.length c3], .int .i64 z] w fun e w' => e = .returned (.bool (vot v n z)) ∧ Kept Nil w w' := by
  have C1 := contains_any B c1 a1 v z _ (h.r1.alloc (.cells #[.slice a1 v.length c1, .slice a2 n.length c2, .slice a3 l.length c3] 38)) h1
  have C2 := contains_any B c2 a2 n z _ (h.r2.alloc (.cells #[.slice a1 v.length c1, .slice a2 n.length c2, .slice a3 l.length c3] 38)) h2
  have HV : Hid (vot v n z = (hasZ v z || hasZ n z)) := rfl
  generalize hasZ v z = b1 at *
  generalize hasZ n z = b2 at *
  clear h h1 h2
  cases b1 with
  | true =>
    go_enter Tryz.func62, Tryz.ntmps62
    go_wp2_with fail
    refine C1.mono ?_
    rintro e w1 ⟨rfl, rfl⟩
    go_wp2
    go_ret
    rw [HV.out]
    exact ⟨rfl, (Kept.refl _ _).alloc _⟩
  | false =>
    go_enter Tryz.func62, Tryz.ntmps62
    go_wp2_with fail
    refine C1.mono ?_
    rintro e w1 ⟨rfl, hw1⟩
    rw [← hw1] at C2
    have K1 : Hid (Kept Nil w w1) := by rw [hw1]; exact (Kept.refl _ _).alloc _
    have hb : w1.heap[w.heap.size]? = some (.cells #[.slice a1 v.length c1, .slice a2 n.length c2, .slice a3 l.length c3] 38 (0, 0)) := by rw [hw1]; exact blk_new _ _
    have q1 : w1.cell? ⟨w.heap.size, 1, none⟩ = some (.slice a2 n.length c2) := blk_cell hb 1
    clear hw1 hb
    go_wp2_with fail
    refine C2.mono ?_
    rintro e w2 ⟨rfl, rfl⟩
    go_wp2
    go_ret
    rw [HV.out]
    exact ⟨rfl, K1.out⟩

def idxF (p : Int → Bool) : Nat → List Int → Int
  | _, [] => -1
  | k, y :: t => if p y then k else idxF p (k + 1) t
theorem idxF_at {zs : List Int} {p : Int → Bool} {k : Nat} (h : k < zs.length) : idxF p k (zs.drop k) = if p zs[k] then (k : Int) else idxF p (k + 1) (zs.drop (k + 1)) := by
  rw [List.drop_eq_getElem_cons h]
  rfl
theorem idxF_any (p : Int → Bool) : ∀ (zs : List Int) (k : Nat), decide (0 ≤ idxF p k zs) = zs.any p
  | [], k => rfl
  | y :: t, k => by
    unfold idxF
    cases h : p y with
    | true => simp [h]
    | false => rw [if_neg (by decide), idxF_any p t (k + 1), List.any_cons, h, Bool.false_or]

set_option maxRecDepth 100000 in
set_option maxHeartbeats 1000000 in
theorem validF_any (B C c1 c2 c3 : Nat) (a1 a2 a3 : Option Addr) (v n l : List Int) (z : Int) (w : World) (h : CfRows B w a1 a2 a3 v n l) (hb : w.heap[C]? = some (.cells #[.slice a1 v.length c1, .slice a2 n.length c2, .slice a3 l.length c3] 38 (0, 0)))
    (h1 : (v.length : Int) ≤ 9223372036854775807) (h2 : (n.length : Int) ≤ 9223372036854775807) :
    Calls Tryz.prog 61 #[.int .i64 z, .pointer (some ⟨C, 0, none⟩)] w fun e w' => e = .returned (.bool (vot v n z)) ∧ Kept Nil w w' := by
  have H := votes_any B c1 c2 c3 a1 a2 a3 v n l z w h h1 h2
  have q0 : w.cell? ⟨C, 0, none⟩ = some (.slice a1 v.length c1) := blk_cell hb 0
  have q1 : w.cell? ⟨C, 1, none⟩ = some (.slice a2 n.length c2) := blk_cell hb 1
  have q2 : w.cell? ⟨C, 2, none⟩ = some (.slice a3 l.length c3) := blk_cell hb 2
  clear h hb h1 h2
  go_enter Tryz.func61, Tryz.ntmps61
  go_wp2_with fail
  refine H.mono ?_
  rintro e w1 ⟨rfl, hk⟩
  go_wp2
  go_ret
  exact ⟨rfl, hk⟩

set_option maxRecDepth 100000 in
set_option maxHeartbeats 1000000 in
theorem indexF_any (B C c1 c2 c3 : Nat) (a1 a2 a3 : Option Addr) (v n l : List Int) (w : World) (h : CfRows B w a1 a2 a3 v n l) (hb : w.heap[C]? = some (.cells #[.slice a1 v.length c1, .slice a2 n.length c2, .slice a3 l.length c3] 38 (0, 0)))
    (h1 : (v.length : Int) ≤ 9223372036854775807) (h2 : (n.length : Int) ≤ 9223372036854775807) (h3 : (l.length : Int) ≤ 9223372036854775807) :
    Calls Tryz.prog 94 #[.slice a3 l.length c3, .func (.func 61) #[] #[.pointer (some ⟨C, 0, none⟩)]] w fun e w' => e = .returned (.int .i64 (idxF (vot v n) 0 l)) ∧ Kept Nil w w' := by
  have HR : Hid (CfRows B w a1 a2 a3 v n l) := h
  have HC : Hid (_) := hb
  clear h hb
  go_enter Tryz.func94, Tryz.ntmps94
  go_wp2
  go_loopw [8] (fun i wr => ∃ k : Nat, k ≤ l.length ∧ i = .int .i64 k ∧ Hid (idxF (vot v n) 0 l = idxF (vot v n) k (l.drop k)) ∧ Hid (Kept Nil w wr)) (fun i _ => l.length - (intOf i).toNat)
  case atStart => exact ⟨0, Nat.zero_le _, rfl, rfl, Kept.refl _ _⟩
  case round =>
    obtain ⟨k, hk, rfl, HI, HK⟩ := hrel
    by_cases hlt : k < l.length
    · obtain ⟨a, rfl, _, hcell⟩ := (HR.out.nil HK.out).r3 k hlt
      have F := validF_any B C c1 c2 c3 a1 a2 (some a) v n l l[k] wr (HR.out.nil HK.out) (HK.out.block _ _ HC.out (fun x => x.elim)) h1 h2
      have HA : Hid (idxF (vot v n) 0 l = if vot v n l[k] then (k : Int) else idxF (vot v n) (k + 1) (l.drop (k + 1))) := HI.out.trans (idxF_at hlt)
      generalize l[k] = z at *
      cases hz : vot v n z with
      | true =>
        rw [hz] at F
        have HF : Hid (idxF (vot v n) 0 l = k) := HA.out.trans (if_pos hz)
        clear hz HA HI
        go_wp2_with fail
        refine F.mono ?_
        rintro e w1 ⟨rfl, hk1⟩
        go_wp2
        go_ret
        rw [HF.out]
        exact ⟨rfl, HK.out.trans hk1⟩
      | false =>
        rw [hz] at F
        have HF : Hid (idxF (vot v n) 0 l = idxF (vot v n) (k + 1) (l.drop (k + 1))) := HA.out.trans (if_neg (by rw [hz]; decide))
        clear hz HA HI
        go_wp2_with fail
        refine F.mono ?_
        rintro e w1 ⟨rfl, hk1⟩
        go_wp2
        go_roundw
        case rel => exact ⟨k + 1, by omega, by go_num, HF, HK.out.trans hk1⟩
        case measure => simp [intOf]; omega
    · have HF : Hid (idxF (vot v n) 0 l = -1) := by show idxF (vot v n) 0 l = -1; rw [HI.out, List.drop_of_length_le (by omega)]; rfl
      go_wp2
      go_ret
      rw [HF.out]
      exact ⟨rfl, HK.out⟩

def anyV (v n l : List Int) : Bool := l.any (vot v n)
set_option maxRecDepth 100000 in
theorem containsF_any (B C c1 c2 c3 : Nat) (a1 a2 a3 : Option Addr) (v n l : List Int) (w : World) (h : CfRows B w a1 a2 a3 v n l) (hb : w.heap[C]? = some (.cells #[.slice a1 v.length c1, .slice a2 n.length c2, .slice a3 l.length c3] 38 (0, 0)))
    (h1 : (v.length : Int) ≤ 9223372036854775807) (h2 : (n.length : Int) ≤ 9223372036854775807) (h3 : (l.length : Int) ≤ 9223372036854775807) :
    Calls Tryz.prog 63 #[.slice a3 l.length c3, .func (.func 61) #[] #[.pointer (some ⟨C, 0, none⟩)]] w fun e w' => e = .returned (.bool (anyV v n l)) ∧ Kept Nil w w' := by
  have H := indexF_any B C c1 c2 c3 a1 a2 a3 v n l w h hb h1 h2 h3
  have HP : Hid (decide (0 ≤ idxF (vot v n) 0 l) = anyV v n l) := idxF_any (vot v n) l 0
  generalize idxF (vot v n) 0 l = p at *
  clear h hb h1 h2 h3
  rw [← HP.out]
  go_enter Tryz.func63, Tryz.ntmps63
  go_wp2_with fail
  refine H.mono ?_
  rintro e w1 ⟨rfl, hk⟩
  go_wp2
  go_ret
  exact ⟨rfl, hk⟩

theorem isCfg_eq (v n l : List Int) : isCfg v n l = (!v.isEmpty && rise 0 v && rise 0 n && rise 0 l && !anyV v n l) := rfl

set_option maxRecDepth 100000 in
set_option maxHeartbeats 2000000 in
theorem valid_any (B c1 c2 c3 : Nat) (a1 a2 a3 : Option Addr) (v n l : List Int) (w : World) (h : CfRows B w a1 a2 a3 v n l) (h1 : (v.length : Int) ≤ 9223372036854775807) (h2 : (n.length : Int) ≤ 9223372036854775807) (h3 : (l.length : Int) ≤ 9223372036854775807) :
    Calls Tryz.prog 29 #[.agg #[.slice a1 v.length c1, .slice a2 n.length c2, .slice a3 l.length c3]] w fun e w' => e = .returned (.bool (isCfg v n l)) ∧ Kept Nil w w' := by
  have hmf : ∀ (fn : Fn) (first cap : Array Value) (w : World), (Instr.makeFunc fn first cap).run Tryz.prog w = .ok (.func fn first cap) w := fun _ _ _ _ => rfl
  have hA := h.alloc (.cells #[.slice a1 v.length c1, .slice a2 n.length c2, .slice a3 l.length c3] 38)
  have A1 := areNodes_any B c1 a1 v _ hA.r1 h1
  have A2 := areNodes_any B c2 a2 n _ hA.r2 h2
  have A3 := areNodes_any B c3 a3 l _ hA.r3 h3
  have F := containsF_any B w.heap.size c1 c2 c3 a1 a2 a3 v n l _ hA (blk_new w _) h1 h2 h3
  have HE : Hid (isCfg v n l = (!v.isEmpty && rise 0 v && rise 0 n && rise 0 l && !anyV v n l)) := isCfg_eq v n l
  generalize anyV v n l = b4 at *
  generalize rise 0 v = b1 at *
  generalize rise 0 n = b2 at *
  generalize rise 0 l = b3 at *
  clear h hA
  cases hv : v.isEmpty with
  | true =>
    have hl : (v.length : Int) ≤ 0 := by rw [List.isEmpty_iff] at hv; rw [hv]; simp
    have hl2 : ((v.length : Int) == 0) = true := by simp; exact List.isEmpty_iff.1 hv
    have HF : Hid (isCfg v n l = false) := by show isCfg v n l = false; rw [HE.out, hv]; rfl
    clear hv HE
    go_enter Tryz.func29, Tryz.ntmps29
    go_wp2
    go_ret
    rw [HF.out]
    exact ⟨rfl, (Kept.refl _ _).alloc _⟩
  | false =>
    have hl2 : ((v.length : Int) == 0) = false := by
      cases v with
      | nil => cases hv
      | cons y t => simp; omega
    have HF : Hid (isCfg v n l = (b1 && b2 && b3 && !b4)) := by show isCfg v n l = _; rw [HE.out, hv]; simp
    clear hv HE
    rw [HF.out]
    cases b1 with
    | false =>
      go_enter Tryz.func29, Tryz.ntmps29
      go_wp2_with fail
      refine A1.mono ?_
      rintro e w1 ⟨rfl, rfl⟩
      go_wp2
      go_ret
      exact ⟨rfl, (Kept.refl _ _).alloc _⟩
    | true =>
      cases b2 with
      | false =>
        go_enter Tryz.func29, Tryz.ntmps29
        go_wp2_with fail
        refine A1.mono ?_
        rintro e w1 ⟨rfl, rfl⟩
        go_wp2_with fail
        refine A2.mono ?_
        rintro e w1 ⟨rfl, rfl⟩
        go_wp2
        go_ret
        exact ⟨rfl, (Kept.refl _ _).alloc _⟩
      | true =>
        cases b3 with
        | false =>
          go_enter Tryz.func29, Tryz.ntmps29
          go_wp2_with fail
          refine A1.mono ?_
          rintro e w1 ⟨rfl, rfl⟩
          go_wp2_with fail
          refine A2.mono ?_
          rintro e w1 ⟨rfl, rfl⟩
          go_wp2_with fail
          refine A3.mono ?_
          rintro e w1 ⟨rfl, rfl⟩
          go_wp2
          go_ret
          exact ⟨rfl, (Kept.refl _ _).alloc _⟩
        | true =>
          go_enter Tryz.func29, Tryz.ntmps29
          go_wp2_with fail
          refine A1.mono ?_
          rintro e w1 ⟨rfl, rfl⟩
          go_wp2_with fail
          refine A2.mono ?_
          rintro e w1 ⟨rfl, rfl⟩
          go_wp2_with fail
          refine A3.mono ?_
          rintro e w1 ⟨rfl, rfl⟩
          go_wp2_with fail
          refine F.mono ?_
          rintro e w1 ⟨rfl, hk⟩
          go_wp2
          go_ret
          exact ⟨rfl, ((Kept.refl _ _).alloc _).trans hk⟩

/-! ### the document's -/
end Go.Proofs.YtijklginabipgaaGreat
