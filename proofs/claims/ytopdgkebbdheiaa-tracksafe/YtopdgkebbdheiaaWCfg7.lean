/-
  A configuration read by the program's reader.
-/
import Derived.Test.YtopdgkebbdheiaaWCfg6
namespace Go.Proofs.Ytopdgkebbdheiaa
open Go.RowKit

/-- A configuration, plainly: its three rows. -/
structure Cf where
  v : List Nat
  n : List Nat
  l : List Nat
def Cf.ok (c : Cf) : Bool := isCfg (intsOf c.v) (intsOf c.n) (intsOf c.l)
def rdCfgEnd (c : Cf) (l : List UInt8) : Except Int (Cf × List UInt8) := if c.ok then .ok (c, l) else .error 8
def rdCfg (l : List UInt8) : Except Int (Cf × List UInt8) := rdThen (rdNums 9 l) fun v l => rdThen (rdNums 9 l) fun n l => rdThen (rdNums 9 l) fun ls l => rdCfgEnd ⟨v, n, ls⟩ l
/-- A configuration whose rows are its own, behind block B. -/
def CfV (B : Nat) : Cf → World → Value → Prop := fun c w v => ∃ a1 a2 a3 c1 c2 c3, v = .agg #[.slice a1 c.v.length c1, .slice a2 c.n.length c2, .slice a3 c.l.length c3] ∧ OwnNats B w a1 c1 c.v ∧ OwnNats B w a2 c2 c.n ∧ OwnNats B w a3 c3 c.l

theorem rdNums_len {most : Nat} {l t : List UInt8} {ns : List Nat} (h : rdNums most l = .ok (ns, t)) : ns.length ≤ most := by
  unfold rdNums at h
  cases r1 : rdUpTo most l with
  | error c => rw [rdThen_no r1] at h; cases h
  | ok x =>
    obtain ⟨n, l1⟩ := x
    rw [rdThen_ok r1] at h
    rw [rdTimes_len h]
    exact (rdUpTo_ok r1).1
theorem validN_any (c1 c2 c3 : Nat) (a1 a2 a3 : Option Addr) (v n l : List Nat) (w : World) (h : CfRows w.heap.size w a1 a2 a3 (intsOf v) (intsOf n) (intsOf l)) (h1 : v.length ≤ 9223372036854775807) (h2 : n.length ≤ 9223372036854775807) (h3 : l.length ≤ 9223372036854775807) :
    Calls Try.prog 20 #[.agg #[.slice a1 v.length c1, .slice a2 n.length c2, .slice a3 l.length c3]] w fun e w' => e = .returned (.bool (Cf.ok ⟨v, n, l⟩)) ∧ Kept Nil w w' := by
  have H := valid_any w.heap.size c1 c2 c3 a1 a2 a3 (intsOf v) (intsOf n) (intsOf l) w h (by rw [intsOf_len]; omega) (by rw [intsOf_len]; omega) (by rw [intsOf_len]; omega)
  rw [intsOf_len, intsOf_len, intsOf_len] at H
  exact H
theorem refIsConfigN_any (c1 c2 c3 : Nat) (a1 a2 a3 : Option Addr) (v n l : List Nat) (w : World) (h : CfRows w.heap.size w a1 a2 a3 (intsOf v) (intsOf n) (intsOf l)) (h1 : v.length ≤ 9223372036854775807) (h2 : n.length ≤ 9223372036854775807) (h3 : l.length ≤ 9223372036854775807) :
    Calls Try.prog 21 #[.agg #[.slice a1 v.length c1, .slice a2 n.length c2, .slice a3 l.length c3]] w fun e w' => e = .returned (.bool (Cf.ok ⟨v, n, l⟩)) ∧ Kept Nil w w' := by
  have H := refIsConfig_any w.heap.size c1 c2 c3 a1 a2 a3 (intsOf v) (intsOf n) (intsOf l) w h (by rw [intsOf_len]; omega) (by rw [intsOf_len]; omega) (by rw [intsOf_len]; omega)
  rw [intsOf_len, intsOf_len, intsOf_len] at H
  exact H
theorem own_len {B c : Nat} {w : World} {ao : Option Addr} {ns : List Nat} (h : OwnNats B w ao c ns) : ns.length ≤ 9223372036854775807 := by
  rcases h.2 with ⟨_, h0⟩ | ⟨g, cap, cur, _, _, _, h1, h2, _⟩
  · omega
  · unfold maxLen at h2; omega
theorem cf_rows {B c1 c2 c3 : Nat} {w : World} {a1 a2 a3 : Option Addr} {v n l : List Nat} (h1 : OwnNats B w a1 c1 v) (h2 : OwnNats B w a2 c2 n) (h3 : OwnNats B w a3 c3 l) : CfRows w.heap.size w a1 a2 a3 (intsOf v) (intsOf n) (intsOf l) := ⟨nats_row h1, nats_row h2, nats_row h3⟩

end Go.Proofs.Ytopdgkebbdheiaa
