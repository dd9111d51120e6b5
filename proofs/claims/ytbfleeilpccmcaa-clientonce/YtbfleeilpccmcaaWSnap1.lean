/-
  Which snapshots may be, by the program and by the document's answer; a snapshot written by either.
-/
import Derived.Test.YtbfleeilpccmcaaWCfg4
import Derived.Test.YtbfleeilpccmcaaWEnt2
namespace Go.Proofs.Ytbfleeilpccmcaa
open Go.RowKit

def snOk (ix tm : Int) (v n l : List Int) (dt : List UInt8) : Bool := isCnt ix && isCnt tm && isCfg v n l && decide (dt.length ≤ 8192)

/-! ### written -/
def encSnap (ix tm : Nat) (v n l : List Nat) (dt : List UInt8) : List UInt8 := encAll [ix, tm] ++ encCfg v n l ++ encText dt
theorem Few.cfg {v n l : List Nat} (f1 : Few v) (f2 : Few n) (f3 : Few l) : (encCfg v n l).length ≤ 18018 := by
  have := f1.enc
  have := f2.enc
  have := f3.enc
  simp only [encCfg, List.length_append]
  omega

def putSnap (ix tm : Int) (v n l : List Int) (dt : List UInt8) : List UInt8 × Int := if snOk ix tm v n l dt then (encSnap ix.toNat tm.toNat (natsOf v) (natsOf n) (natsOf l) dt, 0) else ([], 6)
theorem snOk_facts {ix tm : Int} {v n l : List Int} {dt : List UInt8} (h : snOk ix tm v n l dt = true) : isCnt ix = true ∧ isCnt tm = true ∧ isCfg v n l = true ∧ dt.length ≤ 8192 := by
  simp only [snOk, Bool.and_eq_true, decide_eq_true_eq] at h
  exact ⟨h.1.1.1, h.1.1.2, h.1.2, h.2⟩

/-! ### the document's -/
end Go.Proofs.Ytbfleeilpccmcaa
