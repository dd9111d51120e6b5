/-
  slices.Insert of one session.
-/
import Derived.Test.YtilolhjlokfkeaaWSe8g
namespace Go.Proofs.Ytilolhjlokfkeaa
open Go.RowKit

theorem insertE_any (B c i vb : Nat) (ao : Option Addr) (ps : List Se) (x : Se) (w : World) (h : OwnE B w ao c ps) (hi : i ≤ ps.length) (hn : ps.length < 32) (hv : w.heap[vb]? = some (.cells #[.int .i64 x.s.cl, .int .i64 x.s.ls, .int .i64 x.s.kd, .string (bs x.s.val), .int .i64 x.s.ver, .slice x.ao x.s.ks.length x.c, .int .i64 x.s.sn] 121 (0, 0))) (hne : ∀ a, ao = some a → a.block ≠ vb) (hB : B ≤ w.heap.size) :
    Calls Try.prog 163 #[.slice ao ps.length c, .int .i64 i, .slice (some ⟨vb, 0, none⟩) 1 1] w fun e w' => ∃ ao' c', e = .returned (.slice ao' (ps.length + 1) c') ∧ OwnE B w' ao' c' (insE i x ps) ∧ w.grownBy w' (Value.slice ao ps.length c).ownBlock := by
  by_cases hin : i = ps.length
  · subst hin
    rw [show insE ps.length x ps = ps ++ [x] by unfold insE; simp]
    exact insertE_end B c vb ao ps x w h hn hv hB
  · obtain ⟨g, _, rfl, _⟩ := h.block (fun e => by rw [e] at h; have h9 := h.noneE.1; exact hin (by rw [h9] at hi ⊢; simpa using hi))
    by_cases hroom : ps.length + 1 ≤ c
    · exact (insertE_shift B c i vb g ps x w h (by omega) hn hroom hv (hne _ rfl)).mono fun e w' ⟨h1, h2, h3⟩ => ⟨_, _, h1, h2, h3⟩
    · exact insertE_grow B c i vb g ps x (seCell x) w h (by omega) hn (by omega) rfl hv hB

end Go.Proofs.Ytilolhjlokfkeaa
