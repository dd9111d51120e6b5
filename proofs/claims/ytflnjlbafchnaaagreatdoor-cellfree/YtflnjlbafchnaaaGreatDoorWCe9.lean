/-
  Cells: a command on just one key, plainly as kv.Apply does it; apply (the program).
-/
import Derived.Test.YtflnjlbafchnaaaGreatDoorWCe8
import Derived.Test.YtflnjlbafchnaaaGreatDoorWTmB
namespace Go.Proofs.YtflnjlbafchnaaaGreatDoor
open Go.RowKit

def onePr (k v : List UInt8) (n : Nat) : List Pr := if v = [] ∧ n = 0 then [] else [⟨k, v, n⟩]
theorem one_zero (k : List UInt8) : onePr k [] 0 = [] := if_pos ⟨rfl, rfl⟩
theorem one_pos (k v : List UInt8) {n : Nat} (h : 1 ≤ n) : onePr k v n = [⟨k, v, n⟩] := if_neg (fun e => by omega)
/-- Keys, values and numbers that a cell may have. -/
structure CmOk (kd : Int) (k val : List UInt8) (m : Int) (v : List UInt8) (n : Nat) : Prop where
  oc : isCmd kd k val m = true
  okd : 1 ≤ kd ∧ kd ≤ 5
  ok1 : 1 ≤ k.length
  ok2 : k.length ≤ 16
  oval : val.length ≤ 32
  ov : v.length ≤ 32
  on : n ≤ 999999
  ovn : n = 0 → v = []
theorem ap_one {kd : Int} {k val : List UInt8} {m : Int} {v : List UInt8} {n : Nat} (h : CmOk kd k val m v n) :
    apP kd k val m (onePr k v n) = onePr k (cmV kd val m v n) (cmN kd m n) ∧ apR kd k val m (onePr k v n) = cmR kd m v n := by
  have hv := h.ov
  have hval := h.oval
  have hn := h.on
  have hk1 := h.ok1
  have hkne : k ≠ [] := fun e => by rw [e] at hk1; simp at hk1
  by_cases hz : n = 0
  · have hve := h.ovn hz
    subst hz hve
    rw [one_zero]
    have hok : pairsOk [] = true := rfl
    have hs := spot_abs (key := k) (ps := []) (fun p hp => by cases hp)
    unfold apP apR
    rw [hok, h.oc, hs.1, hs.2]
    simp only [Bool.and_self, if_true]
    have hl : lowP k [] = 0 := rfl
    have hr : ∀ x : List UInt8, x.length ≤ 64 → roomB ([] : List Pr).length 0 x = true := fun x hx => by unfold roomB; simp [hx]
    have hp : ∀ x : List UInt8, x.length ≤ 64 → putP k x 0 (lowP k []) [] = [⟨k, x, 1⟩] ∧ putRr x 0 ([] : List Pr).length = ⟨1, [], 0 + 1, []⟩ := fun x hx => by
      unfold putP putRr
      rw [hr x hx]
      exact ⟨rfl, rfl⟩
    have h5 := h.okd
    rcases (show kd = 1 ∨ kd = 2 ∨ kd = 3 ∨ kd = 4 ∨ kd = 5 by omega) with e | e | e | e | e <;> subst e
    · obtain ⟨p1, p2⟩ := hp val (by omega)
      refine ⟨?_, ?_⟩
      · show putP k val 0 (lowP k []) [] = _
        rw [p1]; exact (one_pos k val (by decide)).symm
      · show putRr val 0 ([] : List Pr).length = _
        rw [p2]; rfl
    · exact ⟨(one_zero k).symm, rfl⟩
    · exact ⟨(one_zero k).symm, rfl⟩
    · refine ⟨?_, ?_⟩
      · show swapP k val m 0 (lowP k []) [] = _
        unfold swapP
        by_cases hm : (0 : Int) = m
        · rw [if_pos hm, (hp val (by omega)).1]
          have e1 : cmV 4 val m [] 0 = val := by unfold cmV; simp [hm]
          have e2 : cmN 4 m 0 = 1 := by unfold cmN; simp [hm]
          rw [e1, e2, one_pos k val (by decide)]
          rfl
        · rw [if_neg hm]
          have e1 : cmV 4 val m [] 0 = [] := by unfold cmV; simp [hm]
          have e2 : cmN 4 m 0 = 0 := by unfold cmN; simp [hm]
          rw [e1, e2, one_zero]
      · show swapRr val [] m 0 ([] : List Pr).length = _
        unfold swapRr cmR
        by_cases hm : (0 : Int) = m
        · rw [if_pos hm, (hp val (by omega)).2]
          simp [hm]
        · rw [if_neg hm]
          simp [hm]
    · obtain ⟨p1, p2⟩ := hp ([] ++ val) (by simp; omega)
      refine ⟨?_, ?_⟩
      · show putP k ([] ++ val) 0 (lowP k []) [] = _
        rw [p1]; exact (one_pos k ([] ++ val) (by decide)).symm
      · show putRr ([] ++ val) 0 ([] : List Pr).length = _
        rw [p2]; rfl
  · have hn1 : 1 ≤ n := by omega
    rw [one_pos k v hn1]
    have hok : pairsOk [⟨k, v, n⟩] = true := ok_of (by simp) (by simp [Srt]) (fun p hp => by
      simp at hp
      subst hp
      exact prOk_mk hkne h.ok2 (by show v.length ≤ 64; omega) (by show (1 : Int) ≤ n; omega) (by show (n : Int) ≤ 1099511627775; omega))
    have hsrt : Srt [(⟨k, v, n⟩ : Pr)] := (pairs_ok hok).2.1
    have hmem : (⟨k, v, n⟩ : Pr) ∈ [(⟨k, v, n⟩ : Pr)] := by simp
    have hs := spot_at hsrt hmem (rfl : (⟨k, v, n⟩ : Pr).k = k)
    have hl : lowP k [⟨k, v, n⟩] = 0 := there_low hsrt (j := 0) (by simp) rfl
    unfold apP apR
    rw [hok, h.oc, hs.1, hs.2, hl]
    simp only [Bool.and_self, if_true]
    have hr : ∀ x : List UInt8, x.length ≤ 64 → roomB [(⟨k, v, n⟩ : Pr)].length (n : Int) x = true := fun x hx => by
      unfold roomB
      have h2 : (n : Int) < 1099511627775 := by omega
      simp [hx, h2]
    have hp : ∀ x : List UInt8, x.length ≤ 64 → putP k x n 0 [⟨k, v, n⟩] = [⟨k, x, (n : Int) + 1⟩] ∧ putRr x n [(⟨k, v, n⟩ : Pr)].length = ⟨1, [], (n : Int) + 1, []⟩ := fun x hx => by
      unfold putP putRr
      rw [hr x hx]
      have h1 : ¬ (n : Int) = 0 := by omega
      refine ⟨?_, rfl⟩
      rw [if_neg (by decide), if_neg h1]
      rfl
    have h5 := h.okd
    have hn0 : ¬ (n : Int) = 0 := by omega
    rcases (show kd = 1 ∨ kd = 2 ∨ kd = 3 ∨ kd = 4 ∨ kd = 5 by omega) with e | e | e | e | e <;> subst e
    · obtain ⟨p1, p2⟩ := hp val (by omega)
      refine ⟨?_, ?_⟩
      · show putP k val n 0 [⟨k, v, n⟩] = _
        rw [p1]; exact (one_pos k val (Nat.succ_pos n)).symm
      · show putRr val n [(⟨k, v, n⟩ : Pr)].length = _
        rw [p2]; rfl
    · exact ⟨(one_pos k v hn1).symm, rfl⟩
    · refine ⟨?_, rfl⟩
      show dropP n 0 [⟨k, v, n⟩] = _
      unfold dropP
      rw [if_neg hn0]
      exact (one_zero k).symm
    · refine ⟨?_, ?_⟩
      · show swapP k val m n 0 [⟨k, v, n⟩] = _
        unfold swapP
        by_cases hm : (n : Int) = m
        · rw [if_pos hm, (hp val (by omega)).1]
          have e1 : cmV 4 val m v n = val := by unfold cmV; simp [hm]
          have e2 : cmN 4 m n = n + 1 := by unfold cmN; simp [hm]
          rw [e1, e2, one_pos k val (by omega)]
          rfl
        · rw [if_neg hm]
          have e1 : cmV 4 val m v n = v := by unfold cmV; simp [hm]
          have e2 : cmN 4 m n = n := by unfold cmN; simp [hm]
          rw [e1, e2, one_pos k v hn1]
      · show swapRr val v m n [(⟨k, v, n⟩ : Pr)].length = _
        unfold swapRr cmR
        by_cases hm : (n : Int) = m
        · rw [if_pos hm, (hp val (by omega)).2]
          simp [hm]
        · rw [if_neg hm]
          simp [hm]
    · obtain ⟨p1, p2⟩ := hp (v ++ val) (by simp; omega)
      refine ⟨?_, ?_⟩
      · show putP k (v ++ val) n 0 [⟨k, v, n⟩] = _
        rw [p1]; exact (one_pos k (v ++ val) (Nat.succ_pos n)).symm
      · show putRr (v ++ val) n [(⟨k, v, n⟩ : Pr)].length = _
        rw [p2]; rfl
end Go.Proofs.YtflnjlbafchnaaaGreatDoor
