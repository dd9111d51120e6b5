/-
  The term of an index in a leader's log.
-/
import Derived.Test.YtopdgkebbdheiaaWLog9
import Derived.Test.YtopdgkebbdheiaaWMatchM
import Derived.Test.YtopdgkebbdheiaaWTorn2
namespace Go.Proofs.Ytopdgkebbdheiaa
open Go.RowKit

set_option maxRecDepth 100000 in
set_option maxHeartbeats 1000000 in
theorem termOf_any (B c p : Nat) (ao : Option Addr) (es : List En) (w : World) (h : EntRow B w ao es) (hp : p ≤ es.length) (hl : (es.length : Int) ≤ 281474976710656) :
    Calls Try.prog 40 #[.slice ao es.length c, .int .i64 p] w fun e w' => e = .returned (.int .i64 (tmAt 0 es p)) ∧ Kept Nil w w' := by
  by_cases hz0 : p = 0
  · subst hz0
    rw [tmAt_zero]
    go_enter Try.func40, Try.ntmps40
    go_wp2
    go_ret
    exact ⟨rfl, Kept.refl _ _⟩
  · obtain ⟨q, rfl⟩ : ∃ q : Nat, p = q + 1 := ⟨p - 1, by omega⟩
    have hq : q < es.length := by omega
    obtain ⟨a, rfl, h1⟩ := h.tm hq
    rw [tmAt_pos (by omega) (show q + 1 - 1 < es.length by omega), show ((q + 1 : Nat) : Int) = (q : Int) + 1 by omega]
    simp only [Nat.add_sub_cancel]
    have hz : ((q : Int) + 1 == 0) = false := by simp; omega
    have hlt : (q : Int) < es.length := by omega
    generalize es[q].tm = t at *
    clear hq h hp hz0
    go_enter Try.func40, Try.ntmps40
    go_wp2
    go_ret
    exact ⟨rfl, Kept.refl _ _⟩

end Go.Proofs.Ytopdgkebbdheiaa
