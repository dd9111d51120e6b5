/-
  WireBack, plainly: the message that it makes may be, and comes back.
-/
import Derived.Test.YtijklginabipgaaWOlq
import Derived.Test.YtijklginabipgaaWOle
namespace Go.Proofs.Ytijklginabipgaa
open Go.RowKit

def bkMsg (ix tm cm cx : Nat) (a : List UInt8) : Mg := { Mg.head 5 1 2 (tm + 1) with ix := ix - 1, lg := if ix - 1 = 0 then 0 else tm, cm := cm, cx := cx, es := [⟨ix, tm, 1, a⟩] }
theorem bkEn {ix tm : Nat} {a : List UInt8} (hi : 1 ≤ ix ∧ ix ≤ 1073741824) (ht : 1 ≤ tm ∧ tm ≤ 1073741824) (ha : a.length ≤ 256) : En.ok ⟨ix, tm, 1, a⟩ = true := by
  have h1 : isCnt (ix : Int) = true := by simp only [isCnt, Bool.and_eq_true, decide_eq_true_eq]; omega
  have h2 : isCnt (tm : Int) = true := by simp only [isCnt, Bool.and_eq_true, decide_eq_true_eq]; omega
  unfold En.ok
  simp only [h1, h2]
  simp [ha]
theorem bkSmall {ix tm cm cx : Nat} {a : List UInt8} (hi : 1 ≤ ix ∧ ix ≤ 1073741824) (ht : 1 ≤ tm ∧ tm ≤ 1073741824) (hm : cm < 1073741824) (hx : cx < 1073741824) (ha : a.length ≤ 256) : (bkMsg ix tm cm cx a).Small := by
  have hs := Mg.small_head (kd := 5) (fr := 1) (td := 2) (tm := tm + 1) (by omega) (by omega) (by omega) (by omega) (by omega)
  refine { hs with ix := ?_, lg := ?_, cm := ?_, cx := ?_, es := ?_ }
  · show ix - 1 ≤ _; omega
  · show (if ix - 1 = 0 then 0 else tm) ≤ _; split <;> omega
  · show cm ≤ _; omega
  · show cx ≤ _; omega
  · exact ⟨by show 1 ≤ 8; omega, fun e he => by
      have : e = ⟨ix, tm, 1, a⟩ := by simpa [bkMsg] using he
      rw [this]; exact bkEn hi ht ha⟩
theorem bkOk {ix tm cm cx : Nat} {a : List UInt8} (hi : 1 ≤ ix ∧ ix ≤ 1073741824) (ht : 1 ≤ tm ∧ tm ≤ 1073741824) (ha : a.length ≤ 256) : (bkMsg ix tm cm cx a).ok = true := by
  have he := bkEn hi ht ha
  have hi' : (ix : Int) = (((ix - 1 : Nat) : Int) + 1) := by omega
  have f : followB ((tm + 1 : Nat) : Int) ((ix - 1 : Nat) : Int) (((if ix - 1 = 0 then 0 else tm : Nat)) : Int) [⟨ix, tm, 1, a⟩] = true := by
    simp only [followB, he, Bool.true_and, Bool.and_true]
    have h1 : ((ix : Int) == ((ix - 1 : Nat) : Int) + 1) = true := by rw [← hi']; simp
    rw [h1]
    have h2 : (((if ix - 1 = 0 then 0 else tm : Nat)) : Int) ≤ (tm : Int) := by split <;> omega
    have h3 : (tm : Int) ≤ ((tm + 1 : Nat) : Int) := by omega
    rw [decide_eq_true h2, decide_eq_true h3]
    rfl
  unfold Mg.ok headB fitsB
  have e : (bkMsg ix tm cm cx a).kd = 5 := rfl
  rw [if_pos e]
  show ((isNd ((1 : Nat) : Int) && isNd ((2 : Nat) : Int) && !((1 : Nat) == 2) && !((tm + 1 == 0) && (!((5 : Nat) == 2) || !false))) && (decide ((if ix - 1 = 0 then 0 else tm) ≤ tm + 1) && (decide (1 ≤ 8) && followB ((tm + 1 : Nat) : Int) ((ix - 1 : Nat) : Int) (((if ix - 1 = 0 then 0 else tm : Nat)) : Int) [⟨ix, tm, 1, a⟩]) && ((ix - 1 == 0) == ((if ix - 1 = 0 then 0 else tm) == 0)))) = true
  rw [f]
  have h1 : decide ((if ix - 1 = 0 then 0 else tm) ≤ tm + 1) = true := by apply decide_eq_true; split <;> omega
  have h2 : ((ix - 1 == 0) == ((if ix - 1 = 0 then 0 else tm) == 0)) = true := by
    by_cases h : ix - 1 = 0
    · simp [h]
    · have h5 : (tm == 0) = false := by simp; omega
      have h6 : (ix - 1 == 0) = false := by simpa using h
      rw [if_neg h, h5, h6]
      rfl
  rw [h1, h2]
  have h3 : (tm + 1 == 0) = false := by simp
  rw [h3]
  rfl
theorem bkRd {ix tm cm cx : Nat} {a : List UInt8} (hi : 1 ≤ ix ∧ ix ≤ 1073741824) (ht : 1 ≤ tm ∧ tm ≤ 1073741824) (hm : cm < 1073741824) (hx : cx < 1073741824) (ha : a.length ≤ 256) : rdMsg (encMsg (bkMsg ix tm cm cx a)) = .ok (bkMsg ix tm cm cx a, []) := by
  have hE : encMsg (bkMsg ix tm cm cx a) = enc 5 ++ (enc 1 ++ (enc 2 ++ (enc (tm + 1) ++ (enc (ix - 1) ++ (enc (if ix - 1 = 0 then 0 else tm) ++ (enc cm ++ (enc cx ++ (enc 1 ++ (encEnt ix tm 1 a ++ []))))))))) := by
    simp [encMsg, encBody, bkMsg, Mg.head, encAll, encList, catAll, encEn]
  have hlg : (if ix - 1 = 0 then 0 else tm) ≤ maxNum := by unfold maxNum; split <;> omega
  have hM : ∀ {n : Nat}, n ≤ 1099511627775 → n ≤ maxNum := fun h => by unfold maxNum; exact h
  have hEns : rdEns 8 (enc 1 ++ (encEnt ix tm 1 a ++ [])) = .ok ([⟨ix, tm, 1, a⟩], []) := by
    unfold rdEns
    rw [rdThen_ok (rdUpTo_enc (hM (by omega)) (by omega) _)]
    have h1 := rdEnt_enc (t := []) (bkEn hi ht ha)
    simp only [rdTimes]
    rw [h1]
    rfl
  rw [hE]
  unfold rdMsg
  rw [rdThen_num (hM (by omega)), rdThen_num (hM (by omega)), rdThen_num (hM (by omega)), rdThen_num (hM (by omega))]
  have hB : rdBody 5 1 2 (tm + 1) (enc (ix - 1) ++ (enc (if ix - 1 = 0 then 0 else tm) ++ (enc cm ++ (enc cx ++ (enc 1 ++ (encEnt ix tm 1 a ++ [])))))) = .ok (bkMsg ix tm cm cx a, []) := by
    unfold rdBody
    rw [if_neg (by decide), if_neg (by decide), if_pos rfl, rdThen_num (hM (by omega)), rdThen_num hlg, rdThen_num (hM (by omega)), rdThen_num (hM (by omega)), rdThen_ok hEns]
    rfl
  rw [rdThen_ok hB, if_pos (bkOk hi ht ha)]
theorem bkLen {ix tm cm cx : Nat} {a : List UInt8} (hi : 1 ≤ ix ∧ ix ≤ 1073741824) (ht : 1 ≤ tm ∧ tm ≤ 1073741824) (hm : cm < 1073741824) (hx : cx < 1073741824) (ha : a.length ≤ 256) : (encMsg (bkMsg ix tm cm cx a)).length ≤ 65536 := by
  have hE : encMsg (bkMsg ix tm cm cx a) = encAll [5, 1, 2, tm + 1, ix - 1, (if ix - 1 = 0 then 0 else tm), cm, cx, 1] ++ encEn ⟨ix, tm, 1, a⟩ := by
    simp [encMsg, encBody, bkMsg, Mg.head, encAll, encList, catAll]
  rw [hE, List.length_append]
  have h1 := encAll_len [5, 1, 2, tm + 1, ix - 1, (if ix - 1 = 0 then 0 else tm), cm, cx, 1] (by
    intro n hn
    simp only [List.mem_cons, List.not_mem_nil, or_false] at hn
    rcases hn with rfl | rfl | rfl | rfl | rfl | rfl | rfl | rfl | rfl <;> (try split) <;> omega)
  have h2 := encEn_len (bkEn hi ht ha)
  simp only [List.length_cons, List.length_nil] at h1
  omega

end Go.Proofs.Ytijklginabipgaa
