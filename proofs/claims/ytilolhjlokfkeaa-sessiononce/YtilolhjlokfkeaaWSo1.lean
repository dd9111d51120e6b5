/-
  SessionOnce: what becomes of its table (plain).
-/
import Derived.Test.YtilolhjlokfkeaaWSeF
namespace Go.Proofs.Ytilolhjlokfkeaa
open Go.RowKit

/-- The pairs behind k appends, and the client's session. -/
def pk (k : Nat) (v : List UInt8) : List Pr := if k = 0 then [] else [⟨[107], v, k⟩]
def sk (k : Nat) : Ss := ⟨5, k, if k = 0 then 0 else 1, [], k, [], 0⟩
theorem so_first : sesT [] [] 0 0 0 0 [] [] 0 0 5 = (pk 0 [], [sk 0], 0, ⟨1, [], 5, []⟩) := by rfl
theorem so_tab {k : Nat} {v : List UInt8} (hk : k ≤ 61) (hv : v.length ≤ 64) : tabOk 0 (pk k v) [sk k] = true := by
  unfold tabOk pk
  split
  · rename_i h
    subst h
    decide
  · rename_i h
    have h1 : (1 : Int) ≤ (k : Int) := by omega
    have h2 : (k : Int) ≤ 1099511627775 := by omega
    have h3 : (0 : Int) ≤ (k : Int) := by omega
    simp [pairsOk, pRise, prOk, sRise, ssOk, ssRs, rsOk, keysOk, kRise, sk, isNum, isCnt, h, h1, h2, hv]
theorem so_rq {nu : Int} {d : UInt8} (h : 0 ≤ nu ∧ nu ≤ 1099511627775) : Rq.ok ⟨5, nu, 5, [107], [d], 0, 0⟩ = true := by
  simp [Rq.ok, isNum, isCmd, h.1, h.2]
theorem so_in (k : Nat) (nu : Int) (v : List UInt8) (d : UInt8) (ix : Int) (h : 0 ≤ nu ∧ nu ≤ 1099511627775) (hk : k ≤ 61) (hv : v.length ≤ 64) :
    sesT (pk k v) [sk k] 0 5 nu 5 [107] [d] 0 0 ix = ((servT (pk k v) [sk k] 0 5 nu 5 [107] [d] 0).1, (servT (pk k v) [sk k] 0 5 nu 5 [107] [d] 0).2.1, 0, (servT (pk k v) [sk k] 0 5 nu 5 [107] [d] 0).2.2) := by
  unfold sesT
  rw [if_pos (by rw [so_rq h, so_tab hk hv]; rfl)]
  rfl
theorem so_serv (k : Nat) (nu : Int) (v : List UInt8) (d : UInt8) :
    servT (pk k v) [sk k] 0 5 nu 5 [107] [d] 0 =
    if nu < (k : Int) ∨ nu < 1 then (pk k v, [sk k], rr0 6)
    else if (k : Int) + 1 < nu then (pk k v, [sk k], rr0 7)
    else if (k : Int) < nu then (apP 5 [107] [d] 0 (pk k v), [{ sk k with ls := nu, kd := (apR 5 [107] [d] 0 (pk k v)).kd, val := (apR 5 [107] [d] 0 (pk k v)).v, ver := (apR 5 [107] [d] 0 (pk k v)).n, ks := (apR 5 [107] [d] 0 (pk k v)).ks }], apR 5 [107] [d] 0 (pk k v))
    else (pk k v, [sk k], ⟨(sk k).kd, (sk k).val, (sk k).ver, (sk k).ks⟩) := rfl
theorem so_ap {k : Nat} {v : List UInt8} (d : UInt8) (hk : k ≤ 60) (hv : v.length = k) : apR 5 [107] [d] 0 (pk k v) = ⟨1, [], (k : Int) + 1, []⟩ ∧ apP 5 [107] [d] 0 (pk k v) = pk (k + 1) (v ++ [d]) := by
  have hok : (pairsOk (pk k v) && isCmd 5 [107] [d] 0) = true := by
    have h1 := (tab_facts (so_tab (k := k) (v := v) (by omega) (by omega))).2.1
    rw [h1]
    rfl
  unfold apR apP
  rw [if_pos hok, if_pos hok]
  cases k with
  | zero =>
    obtain rfl : v = [] := List.eq_nil_of_length_eq_zero hv
    exact ⟨rfl, rfl⟩
  | succ k =>
    have e1 : pk (k + 1) v = [⟨[107], v, ((k + 1 : Nat) : Int)⟩] := rfl
    have e2 : spotV [107] (pk (k + 1) v) = v := rfl
    have e3 : spotN [107] (pk (k + 1) v) = ((k + 1 : Nat) : Int) := rfl
    have e4 : lowP [107] (pk (k + 1) v) = 0 := rfl
    rw [e2, e3, e4]
    have hr : roomB (pk (k + 1) v).length ((k + 1 : Nat) : Int) (v ++ [d]) = true := by
      rw [e1]
      unfold roomB
      have h1 : (v ++ [d]).length ≤ 64 := by rw [List.length_append]; simp; omega
      have h2 : ((k + 1 : Nat) : Int) < 1099511627775 := by omega
      simp
      omega
    refine ⟨?_, ?_⟩
    · show putRr (v ++ [d]) ((k + 1 : Nat) : Int) (pk (k + 1) v).length = _
      unfold putRr
      rw [hr]
      rfl
    · show putP [107] (v ++ [d]) ((k + 1 : Nat) : Int) 0 (pk (k + 1) v) = _
      unfold putP
      rw [hr, if_neg (by simp), if_neg (by omega)]
      rfl
/-- The next request. -/
theorem so_next {k : Nat} {v : List UInt8} (d : UInt8) (ix : Int) (hk : k ≤ 60) (hv : v.length = k) : sesT (pk k v) [sk k] 0 5 ((k : Int) + 1) 5 [107] [d] 0 0 ix = (pk (k + 1) (v ++ [d]), [sk (k + 1)], 0, ⟨1, [], (k : Int) + 1, []⟩) := by
  rw [so_in k _ v d ix (by omega) (by omega) (by omega), so_serv, if_neg (by omega), if_neg (by omega), if_pos (by omega)]
  rw [(so_ap d hk hv).1, (so_ap d hk hv).2]
  rfl
/-- The same once more. -/
theorem so_again {k : Nat} {v : List UInt8} (d : UInt8) (ix : Int) (hk : k ≤ 60) (hv : v.length ≤ 64) : sesT (pk (k + 1) v) [sk (k + 1)] 0 5 ((k : Int) + 1) 5 [107] [d] 0 0 ix = (pk (k + 1) v, [sk (k + 1)], 0, ⟨1, [], (k : Int) + 1, []⟩) := by
  rw [so_in (k + 1) _ v d ix (by omega) (by omega) hv, so_serv, if_neg (by omega), if_neg (by omega), if_neg (by omega)]
  rfl
theorem so_stale {k : Nat} {v : List UInt8} {nu : Int} (d : UInt8) (ix : Int) (hk : k ≤ 60) (hv : v.length ≤ 64) (h0 : 0 ≤ nu) (h1 : nu ≤ k) : sesT (pk (k + 1) v) [sk (k + 1)] 0 5 nu 5 [107] [d] 0 0 ix = (pk (k + 1) v, [sk (k + 1)], 0, rr0 6) := by
  rw [so_in (k + 1) _ v d ix (by omega) (by omega) hv, so_serv, if_pos (by omega)]
theorem so_gap {k : Nat} {v : List UInt8} {nu : Int} (d : UInt8) (ix : Int) (hk : k ≤ 60) (hv : v.length ≤ 64) (h0 : (k : Int) + 3 ≤ nu) (h1 : nu ≤ 1099511627775) : sesT (pk (k + 1) v) [sk (k + 1)] 0 5 nu 5 [107] [d] 0 0 ix = (pk (k + 1) v, [sk (k + 1)], 0, rr0 7) := by
  rw [so_in (k + 1) _ v d ix (by omega) (by omega) hv, so_serv, if_neg (by omega), if_pos (by omega)]

end Go.Proofs.Ytilolhjlokfkeaa
