/-
  Lists of texts and of pairs, results, sessions and tables, written by the program.
  Sessions, tables, written by the program.
  A table written by the program: writer.table, write, PutTable.
-/
import Derived.Test.YtijklginabipgaaWTab5
import Derived.Test.YtijklginabipgaaWOlf
namespace Go.Proofs.Ytijklginabipgaa
open Go.RowKit

def catAll {α : Type} (f : α → List UInt8) (xs : List α) : List UInt8 := (xs.map f).flatten
theorem catAll_step {α : Type} (f : α → List UInt8) {xs : List α} {k : Nat} (h : k < xs.length) : catAll f (xs.take (k + 1)) = catAll f (xs.take k) ++ f xs[k] := by
  rw [List.take_succ_eq_append_getElem h]
  simp only [catAll, List.map_append, List.flatten_append, List.map_cons, List.map_nil, List.flatten_cons, List.flatten_nil, List.append_nil]
theorem catAll_le {α : Type} (f : α → List UInt8) (M : Nat) : ∀ (xs : List α), (∀ x ∈ xs, (f x).length ≤ M) → (catAll f xs).length ≤ M * xs.length
  | [], _ => by simp [catAll]
  | x :: t, h => by
    have h1 := h x (by simp)
    have h2 := catAll_le f M t (fun y hy => h y (by simp [hy]))
    simp only [catAll, List.map_cons, List.flatten_cons, List.length_append, List.length_cons] at h2 ⊢
    rw [Nat.mul_succ]
    omega
def encList {α : Type} (f : α → List UInt8) (xs : List α) : List UInt8 := enc xs.length ++ catAll f xs
theorem encList_le {α : Type} (f : α → List UInt8) (M : Nat) {xs : List α} (h : ∀ x ∈ xs, (f x).length ≤ M) (hl : xs.length ≤ 1000) : (encList f xs).length ≤ 6 + M * xs.length := by
  have h1 := catAll_le f M xs h
  have h2 := enc_len6 (n := xs.length) (by omega)
  simp only [encList, List.length_append]
  omega
theorem wInt_any (b : Nat) (x : Int) (l : List UInt8) (w : World) (h : WInv b w l) (hx : isNum x = true) (hl : l.length ≤ 1099511627775) :
    Calls Try.prog 149 #[.pointer (some ⟨b, 0, none⟩), .int .i64 x] w fun e w' => e = .returned (.tuple #[]) ∧ WInv b w' (l ++ enc x.toNat) ∧ Kept (Wr b) w w' := by
  obtain ⟨e, hm⟩ := isNum_nat hx
  have H := wNumber_any b x.toNat l w h hm hl
  rw [e] at H
  exact H

structure KFine (ks : List (List UInt8)) : Prop where
  le : ∀ x ∈ ks, x.length ≤ 16
  len : ks.length ≤ 32
theorem KFine.enc {ks : List (List UInt8)} (h : KFine ks) : (encList encText ks).length ≤ 710 := by
  have := encList_le encText 22 (xs := ks) (fun x hx => by have := h.le x hx; have := encText_len (l := x) (by omega); omega) (by have := h.len; omega)
  have := h.len
  omega
def encPr (p : Pr) : List UInt8 := encText p.k ++ encText p.v ++ enc p.n.toNat
structure PFine (p : Pr) : Prop where
  k : p.k.length ≤ 16
  v : p.v.length ≤ 64
  n : isNum p.n = true
theorem PFine.enc {p : Pr} (h : PFine p) : (encPr p).length ≤ 98 := by
  have h1 := h.k
  have h2 := h.v
  have h3 := enc_len6 (isNum_nat h.n).2
  have h4 := encText_len (l := p.k) (by omega)
  have h5 := encText_len (l := p.v) (by omega)
  simp only [encPr, List.length_append]
  omega
def encRs (kd : Int) (val : List UInt8) (ver : Int) (ks : List (List UInt8)) : List UInt8 := enc kd.toNat ++ encText val ++ enc ver.toNat ++ encList encText ks
def encSs (s : Ss) : List UInt8 := encAll [s.cl.toNat, s.ls.toNat, s.sn.toNat] ++ encRs s.kd s.val s.ver s.ks
structure SFine (s : Ss) : Prop where
  cl : isNum s.cl = true
  ls : isNum s.ls = true
  sn : isNum s.sn = true
  kd : isNum s.kd = true
  ver : isNum s.ver = true
  val : s.val.length ≤ 64
  ks : KFine s.ks
theorem encRs_le {kd ver : Int} {val : List UInt8} {ks : List (List UInt8)} (h1 : isNum kd = true) (h2 : isNum ver = true) (h3 : val.length ≤ 64) (h4 : KFine ks) : (encRs kd val ver ks).length ≤ 800 := by
  have g1 := enc_len6 (isNum_nat h1).2
  have g2 := enc_len6 (isNum_nat h2).2
  have g3 := encText_len (l := val) (by omega)
  have g4 := h4.enc
  simp only [encRs, List.length_append]
  omega
theorem SFine.enc {s : Ss} (h : SFine s) : (encSs s).length ≤ 818 := by
  have g := encRs_le h.kd h.ver h.val h.ks
  have g2 := encAll_len [s.cl.toNat, s.ls.toNat, s.sn.toNat] (by intro n hn; simp at hn; rcases hn with rfl | rfl | rfl; exact (isNum_nat h.cl).2; exact (isNum_nat h.ls).2; exact (isNum_nat h.sn).2)
  simp only [List.length_cons, List.length_nil] at g2
  simp only [encSs, List.length_append]
  omega

set_option maxRecDepth 100000 in
set_option maxHeartbeats 2000000 in
theorem putListS_any (b B cap : Nat) (ao : Option Addr) (ks : List (List UInt8)) (l : List UInt8) (w : World) (h : WInv b w l) (hr : StrRow B w ao ks) (hB : B ≤ b)
    (hn : ∀ x ∈ ks, x.length ≤ 16) (hnl : ks.length ≤ 32) (hl : l.length ≤ 100000000000) :
    Calls Try.prog 222 #[.pointer (some ⟨b, 0, none⟩), .slice ao ks.length cap, .func (.func 142) #[] #[]] w fun e w' => e = .returned (.tuple #[]) ∧ WInv b w' (l ++ encList encText ks) ∧ Kept (Wr b) w w' := by
  have HR : Hid (StrRow B w ao ks) := hr
  have HN : Hid (∀ x ∈ ks, x.length ≤ 16) := hn
  have HL : Hid (l.length ≤ 100000000000 ∧ B ≤ b) := ⟨hl, hB⟩
  have N0 := wNumber_any b ks.length l w h (by omega) (by omega)
  have hnl' : (ks.length : Int) ≤ 32 := by omega
  have HE0 : Hid ((enc ks.length).length ≤ 6) := enc_len6 (by omega)
  clear hr hn hl hB h
  go_enter Try.func222, Try.ntmps222
  go_wp2_with fail
  refine N0.mono ?_
  rintro e w1 ⟨rfl, i1, k1⟩
  have HK1 : Hid (Kept (Wr b) w w1) := k1
  have HI1 : Hid (WInv b w1 (l ++ enc ks.length)) := i1
  clear i1 k1 N0
  go_wp2
  go_loopw [14] (fun i wr => ∃ k : Nat, k ≤ ks.length ∧ i = .int .i64 k ∧ Hid (WInv b wr ((l ++ enc ks.length) ++ catAll encText (ks.take k))) ∧ Hid (Kept (Wr b) w wr)) (fun i _ => ks.length - (intOf i).toNat)
  case atStart => exact ⟨0, Nat.zero_le _, rfl, by show WInv _ _ _; simpa [catAll] using HI1.out, HK1.out⟩
  case round =>
    obtain ⟨k, hk, rfl, HI, HK⟩ := hrel
    clear HI1 HK1
    by_cases hlt : k < ks.length
    · obtain ⟨a, rfl, _, hcell, hmax⟩ := (HR.out.kept HK.out (fun _ _ h => not_below HL.out.2 h)) k hlt
      have hfine := HN.out ks[k] (List.getElem_mem hlt)
      have HE : Hid (((l ++ enc ks.length) ++ catAll encText (ks.take k)) ++ encText ks[k] = (l ++ enc ks.length) ++ catAll encText (ks.take (k + 1))) := by
        show _ = _
        rw [catAll_step encText hlt, List.append_assoc, List.append_assoc]
      have HLE : Hid (((l ++ enc ks.length) ++ catAll encText (ks.take k)).length ≤ 200000000000) := by
        have h1 := catAll_le encText 22 (ks.take k) (fun x hx => by have := HN.out x (List.mem_of_mem_take hx); have := encText_len (l := x) (by omega); omega)
        have h2 := HL.out.1
        have h3 := HE0.out
        show _ ≤ _
        simp only [List.length_append, List.length_take] at h1 ⊢
        omega
      have H := wText_any b ks[k] _ wr HI.out (by omega) (by have := HLE.out; omega)
      rw [HE.out] at H
      generalize ks[k] = x at *
      clear HI HE HLE hfine hmax
      go_wp2_with fail
      refine H.mono ?_
      rintro e w' ⟨rfl, i', k'⟩
      have HK' : Hid (Kept (Wr b) w w') := HK.out.trans k'
      have HI' : Hid (WInv b w' ((l ++ enc ks.length) ++ catAll encText (ks.take (k + 1)))) := i'
      clear i' k'
      go_wp2
      go_roundw
      case rel => exact ⟨k + 1, by omega, by go_num, HI'.out, HK'.out⟩
      case measure => simp [intOf]; omega
    · have HI2 : Hid (WInv b wr (l ++ encList encText ks)) := by
        show WInv _ _ _
        have := HI.out
        rw [List.take_of_length_le (by omega), List.append_assoc] at this
        exact this
      go_wp2
      go_end0
      exact ⟨rfl, HI2.out, HK.out⟩

set_option maxRecDepth 100000 in
set_option maxHeartbeats 2000000 in
theorem wPair_any (b : Nat) (p : Pr) (t : List UInt8) (w : World) (h : WInv b w t) (hp : PFine p) (hl : t.length ≤ 300000000000) :
    Calls Try.prog 162 #[.pointer (some ⟨b, 0, none⟩), .agg #[.string (bs p.k), .string (bs p.v), .int .i64 p.n]] w fun e w' => e = .returned (.tuple #[]) ∧ WInv b w' (t ++ encPr p) ∧ Kept (Wr b) w w' := by
  have hlt := h.lt
  have HX : Hid (¬ Wr b w.heap.size (.cells #[.string (bs p.k), .string (bs p.v), .int .i64 p.n] 128)) := not_wr (Nat.ne_of_gt hlt) (by decide)
  have HB : Hid (_) := blk_new w (.cells #[.string (bs p.k), .string (bs p.v), .int .i64 p.n] 128)
  have H := wText_any b p.k t _ (h.alloc (.cells #[.string (bs p.k), .string (bs p.v), .int .i64 p.n] 128)) (by have := hp.k; omega) (by omega)
  have HL : Hid (t.length ≤ 300000000000 ∧ PFine p) := ⟨hl, hp⟩
  have HE : Hid (t ++ encPr p = ((t ++ encText p.k) ++ encText p.v) ++ enc p.n.toNat) := by show _ = _; simp [encPr]
  rw [HE.out]
  clear hl hlt hp h
  obtain ⟨key, val, n⟩ := p
  simp only at *
  go_enter Try.func162, Try.ntmps162
  go_wp2_with fail
  refine H.mono ?_
  rintro e w1 ⟨rfl, i1, k1⟩
  have X1 : Hid _ := k1.block _ _ HB.out HX.out
  have q1 := blk_at X1.out 1 rfl
  go_wp2_with fail
  refine (wText_any b val _ w1 i1 (by have := HL.out.2.v; simp only at this; omega) (by have := HL.out.1; have h1 := HL.out.2.k; simp only at h1; have := encText_len (l := key) (by omega); simp only [List.length_append]; omega)).mono ?_
  rintro e w2 ⟨rfl, i2, k2⟩
  have q2 := blk_at (k2.block _ _ X1.out HX.out) 2 rfl
  go_wp2_with fail
  refine (wInt_any b n _ w2 i2 HL.out.2.n (by have := HL.out.1; have h1 := HL.out.2.k; have h2 := HL.out.2.v; simp only at h1 h2; have := encText_len (l := key) (by omega); have := encText_len (l := val) (by omega); simp only [List.length_append]; omega)).mono ?_
  rintro e w3 ⟨rfl, i3, k3⟩
  go_wp2
  go_end0
  exact ⟨rfl, i3, ((((Kept.refl _ _).alloc _).trans k1).trans k2).trans k3⟩

set_option maxRecDepth 100000 in
set_option maxHeartbeats 2000000 in
theorem putListP_any (b B cap : Nat) (ao : Option Addr) (ps : List Pr) (l : List UInt8) (w : World) (h : WInv b w l) (hr : PairRow B w ao ps) (hB : B ≤ b)
    (hn : ∀ p ∈ ps, PFine p) (hnl : ps.length ≤ 32) (hl : l.length ≤ 100000000000) :
    Calls Try.prog 161 #[.pointer (some ⟨b, 0, none⟩), .slice ao ps.length cap, .func (.func 162) #[] #[]] w fun e w' => e = .returned (.tuple #[]) ∧ WInv b w' (l ++ encList encPr ps) ∧ Kept (Wr b) w w' := by
  have HR : Hid (PairRow B w ao ps) := hr
  have HN : Hid (∀ p ∈ ps, PFine p) := hn
  have HL : Hid (l.length ≤ 100000000000 ∧ B ≤ b) := ⟨hl, hB⟩
  have N0 := wNumber_any b ps.length l w h (by omega) (by omega)
  have hnl' : (ps.length : Int) ≤ 32 := by omega
  have HE0 : Hid ((enc ps.length).length ≤ 6) := enc_len6 (by omega)
  clear hr hn hl hB h
  go_enter Try.func161, Try.ntmps161
  go_wp2_with fail
  refine N0.mono ?_
  rintro e w1 ⟨rfl, i1, k1⟩
  have HK1 : Hid (Kept (Wr b) w w1) := k1
  have HI1 : Hid (WInv b w1 (l ++ enc ps.length)) := i1
  clear i1 k1 N0
  go_wp2
  go_loopw [14] (fun i wr => ∃ k : Nat, k ≤ ps.length ∧ i = .int .i64 k ∧ Hid (WInv b wr ((l ++ enc ps.length) ++ catAll encPr (ps.take k))) ∧ Hid (Kept (Wr b) w wr)) (fun i _ => ps.length - (intOf i).toNat)
  case atStart => exact ⟨0, Nat.zero_le _, rfl, by show WInv _ _ _; simpa [catAll] using HI1.out, HK1.out⟩
  case round =>
    obtain ⟨k, hk, rfl, HI, HK⟩ := hrel
    clear HI1 HK1
    by_cases hlt : k < ps.length
    · obtain ⟨a, rfl, _, hc0, hc1, hc2, _, _⟩ := (HR.out.kept HK.out (fun _ _ h => not_below HL.out.2 h)) k hlt
      have hfine := HN.out ps[k] (List.getElem_mem hlt)
      have HE : Hid (((l ++ enc ps.length) ++ catAll encPr (ps.take k)) ++ encPr ps[k] = (l ++ enc ps.length) ++ catAll encPr (ps.take (k + 1))) := by
        show _ = _
        rw [catAll_step encPr hlt, List.append_assoc, List.append_assoc]
      have HLE : Hid (((l ++ enc ps.length) ++ catAll encPr (ps.take k)).length ≤ 200000000000) := by
        have h1 := catAll_le encPr 98 (ps.take k) (fun x hx => (HN.out x (List.mem_of_mem_take hx)).enc)
        have h2 := HL.out.1
        have h3 := HE0.out
        show _ ≤ _
        simp only [List.length_append, List.length_take] at h1 ⊢
        omega
      have H := wPair_any b ps[k] _ _ (HI.out.alloc (.cells #[.string (bs ps[k].k), .string (bs ps[k].v), .int .i64 ps[k].n] 128)) hfine (by have := HLE.out; omega)
      rw [HE.out] at H
      generalize ps[k].k = key at *
      generalize ps[k].v = val at *
      generalize ps[k].n = ver at *
      clear HI HE HLE hfine
      go_wp2_with fail
      refine H.mono ?_
      rintro e w' ⟨rfl, i', k'⟩
      have HK' : Hid (Kept (Wr b) w w') := (HK.out.alloc _).trans k'
      have HI' : Hid (WInv b w' ((l ++ enc ps.length) ++ catAll encPr (ps.take (k + 1)))) := i'
      clear i' k'
      go_wp2
      go_roundw
      case rel => exact ⟨k + 1, by omega, by go_num, HI'.out, HK'.out⟩
      case measure => simp [intOf]; omega
    · have HI2 : Hid (WInv b wr (l ++ encList encPr ps)) := by
        show WInv _ _ _
        have := HI.out
        rw [List.take_of_length_le (by omega), List.append_assoc] at this
        exact this
      go_wp2
      go_end0
      exact ⟨rfl, HI2.out, HK.out⟩

set_option maxRecDepth 100000 in
set_option maxHeartbeats 2000000 in
theorem wResult_any (b B c : Nat) (kd ver : Int) (val : List UInt8) (ao : Option Addr) (ks : List (List UInt8)) (t : List UInt8) (w : World) (h : WInv b w t) (hr : StrRow B w ao ks) (hB : B ≤ b) (h1 : isNum kd = true) (h2 : isNum ver = true) (h3 : val.length ≤ 64) (h4 : KFine ks) (hl : t.length ≤ 50000000000) :
    Calls Try.prog 205 #[.pointer (some ⟨b, 0, none⟩), .agg #[.int .i64 kd, .string (bs val), .int .i64 ver, .slice ao ks.length c]] w fun e w' => e = .returned (.tuple #[]) ∧ WInv b w' (t ++ encRs kd val ver ks) ∧ Kept (Wr b) w w' := by
  have hlt := h.lt
  have HX : Hid (¬ Wr b w.heap.size (.cells #[.int .i64 kd, .string (bs val), .int .i64 ver, .slice ao ks.length c] 131)) := not_wr (Nat.ne_of_gt hlt) (by decide)
  have HB : Hid (_) := blk_new w (.cells #[.int .i64 kd, .string (bs val), .int .i64 ver, .slice ao ks.length c] 131)
  have H := wInt_any b kd t _ (h.alloc (.cells #[.int .i64 kd, .string (bs val), .int .i64 ver, .slice ao ks.length c] 131)) h1 (by omega)
  have HL : Hid (t.length ≤ 50000000000 ∧ isNum kd = true ∧ isNum ver = true ∧ val.length ≤ 64 ∧ KFine ks ∧ B ≤ b) := ⟨hl, h1, h2, h3, h4, hB⟩
  have HR : Hid (StrRow B (w.alloc (.cells #[.int .i64 kd, .string (bs val), .int .i64 ver, .slice ao ks.length c] 131)) ao ks) := hr.alloc _
  have HE : Hid (t ++ encRs kd val ver ks = (((t ++ enc kd.toNat) ++ encText val) ++ enc ver.toNat) ++ encList encText ks) := by show _ = _; simp [encRs]
  have HS : Hid ((enc kd.toNat).length ≤ 6 ∧ (enc ver.toNat).length ≤ 6 ∧ (encText val).length ≤ 70) := ⟨enc_len6 (isNum_nat h1).2, enc_len6 (isNum_nat h2).2, by have := encText_len (l := val) (by omega); omega⟩
  rw [HE.out]
  clear hl hlt hr h h1 h2 h3 h4 hB
  go_enter Try.func205, Try.ntmps205
  go_wp2_with fail
  refine H.mono ?_
  rintro e w1 ⟨rfl, i1, k1⟩
  have X1 : Hid _ := k1.block _ _ HB.out HX.out
  have q1 := blk_at X1.out 1 rfl
  go_wp2_with fail
  refine (wText_any b val _ w1 i1 (by have := HL.out; omega) (by have := HL.out; have := HS.out; simp only [List.length_append]; omega)).mono ?_
  rintro e w2 ⟨rfl, i2, k2⟩
  have X2 : Hid _ := k2.block _ _ X1.out HX.out
  have q2 := blk_at X2.out 2 rfl
  go_wp2_with fail
  refine (wInt_any b ver _ w2 i2 HL.out.2.2.1 (by have := HL.out; have := HS.out; simp only [List.length_append]; omega)).mono ?_
  rintro e w3 ⟨rfl, i3, k3⟩
  have X3 : Hid _ := k3.block _ _ X2.out HX.out
  have q3 := blk_at X3.out 3 rfl
  have K3 : Hid (Kept (Wr b) (w.alloc (.cells #[.int .i64 kd, .string (bs val), .int .i64 ver, .slice ao ks.length c] 131)) w3) := (k1.trans k2).trans k3
  have P := putListS_any b B c ao ks _ w3 i3 (HR.out.kept K3.out (fun _ _ h => not_below HL.out.2.2.2.2.2 h)) HL.out.2.2.2.2.2 HL.out.2.2.2.2.1.le HL.out.2.2.2.2.1.len (by have := HL.out; have := HS.out; simp only [List.length_append]; omega)
  go_wp2_with fail
  refine P.mono ?_
  rintro e w4 ⟨rfl, i4, k4⟩
  go_wp2
  go_end0
  exact ⟨rfl, i4, (((Kept.refl _ _).alloc _).trans K3.out).trans k4⟩

end Go.Proofs.Ytijklginabipgaa

namespace Go.Proofs.Ytijklginabipgaa
open Go.RowKit

set_option maxRecDepth 100000 in
set_option maxHeartbeats 2000000 in
theorem wSession_any (b B c : Nat) (s : Ss) (ao : Option Addr) (t : List UInt8) (w : World) (h : WInv b w t) (hr : StrRow B w ao s.ks) (hB : B ≤ b) (hs : SFine s) (hl : t.length ≤ 40000000000) :
    Calls Try.prog 164 #[.pointer (some ⟨b, 0, none⟩), .agg #[.int .i64 s.cl, .int .i64 s.ls, .int .i64 s.kd, .string (bs s.val), .int .i64 s.ver, .slice ao s.ks.length c, .int .i64 s.sn]] w fun e w' => e = .returned (.tuple #[]) ∧ WInv b w' (t ++ encSs s) ∧ Kept (Wr b) w w' := by
  have hlt := h.lt
  have HX : Hid (¬ Wr b w.heap.size (.cells #[.int .i64 s.cl, .int .i64 s.ls, .int .i64 s.kd, .string (bs s.val), .int .i64 s.ver, .slice ao s.ks.length c, .int .i64 s.sn] 133)) := not_wr (Nat.ne_of_gt hlt) (by decide)
  have HB : Hid (_) := blk_past (blk_new w (.cells #[.int .i64 s.cl, .int .i64 s.ls, .int .i64 s.kd, .string (bs s.val), .int .i64 s.ver, .slice ao s.ks.length c, .int .i64 s.sn] 133)) (.cells #[.int .i64 s.cl, .int .i64 s.ls, .int .i64 s.sn] 3)
  have hg := blk_new (w.alloc (.cells #[.int .i64 s.cl, .int .i64 s.ls, .int .i64 s.kd, .string (bs s.val), .int .i64 s.ver, .slice ao s.ks.length c, .int .i64 s.sn] 133)) (.cells #[.int .i64 s.cl, .int .i64 s.ls, .int .i64 s.sn] 3)
  rw [show (w.alloc (.cells #[.int .i64 s.cl, .int .i64 s.ls, .int .i64 s.kd, .string (bs s.val), .int .i64 s.ver, .slice ao s.ks.length c, .int .i64 s.sn] 133)).heap.size = w.heap.size + 1 by simp] at hg
  have hle : ∀ n ∈ [s.cl.toNat, s.ls.toNat, s.sn.toNat], n ≤ 1099511627775 := by intro n hn; simp at hn; rcases hn with rfl | rfl | rfl; exact (isNum_nat hs.cl).2; exact (isNum_nat hs.ls).2; exact (isNum_nat hs.sn).2
  have hin : IntsAt ((w.alloc (.cells #[.int .i64 s.cl, .int .i64 s.ls, .int .i64 s.kd, .string (bs s.val), .int .i64 s.ver, .slice ao s.ks.length c, .int .i64 s.sn] 133)).alloc (.cells #[.int .i64 s.cl, .int .i64 s.ls, .int .i64 s.sn] 3)) (w.heap.size + 1) (intsOf [s.cl.toNat, s.ls.toNat, s.sn.toNat]) := by
    have := ints3 w (.cells #[.int .i64 s.cl, .int .i64 s.ls, .int .i64 s.kd, .string (bs s.val), .int .i64 s.ver, .slice ao s.ks.length c, .int .i64 s.sn] 133) s.cl s.ls s.sn
    simpa [intsOf, (isNum_nat hs.cl).1, (isNum_nat hs.ls).1, (isNum_nat hs.sn).1] using this
  have H := wNumbers_any b (w.heap.size + 1) 3 _ _ [s.cl.toNat, s.ls.toNat, s.sn.toNat] t _ ((h.alloc _).alloc _) hg (by omega) hin hle (by simp) (by omega)
  have HL : Hid ((encAll [s.cl.toNat, s.ls.toNat, s.sn.toNat]).length ≤ 18 ∧ t.length ≤ 40000000000 ∧ SFine s ∧ B ≤ b) := by
    have := encAll_len _ hle
    exact ⟨by simpa using this, hl, hs, hB⟩
  have HR : Hid (StrRow B ((w.alloc (.cells #[.int .i64 s.cl, .int .i64 s.ls, .int .i64 s.kd, .string (bs s.val), .int .i64 s.ver, .slice ao s.ks.length c, .int .i64 s.sn] 133)).alloc (.cells #[.int .i64 s.cl, .int .i64 s.ls, .int .i64 s.sn] 3)) ao s.ks) := (hr.alloc _).alloc _
  have HE : Hid (t ++ encSs s = (t ++ encAll [s.cl.toNat, s.ls.toNat, s.sn.toNat]) ++ encRs s.kd s.val s.ver s.ks) := by show _ = _; simp [encSs]
  rw [HE.out]
  clear hl hlt hr h hs hB hle hin hg
  go_enter Try.func164, Try.ntmps164
  go_wp2_with fail
  refine H.mono ?_
  rintro e w1 ⟨rfl, i1, k1⟩
  have X1 : Hid _ := k1.block _ _ HB.out HX.out
  have q2 := blk_at X1.out 2 rfl
  have q3 := blk_at X1.out 3 rfl
  have q4 := blk_at X1.out 4 rfl
  have q5 := blk_at X1.out 5 rfl
  have P := wResult_any b B c s.kd s.ver s.val ao s.ks _ w1 i1 (HR.out.kept k1 (fun _ _ h => not_below HL.out.2.2.2 h)) HL.out.2.2.2 HL.out.2.2.1.kd HL.out.2.2.1.ver HL.out.2.2.1.val HL.out.2.2.1.ks (by have := HL.out; simp only [List.length_append]; omega)
  go_wp2_with fail
  refine P.mono ?_
  rintro e w2 ⟨rfl, i2, k2⟩
  go_wp2
  go_end0
  exact ⟨rfl, i2, ((((Kept.refl _ _).alloc _).alloc _).trans k1).trans k2⟩

set_option maxRecDepth 100000 in
set_option maxHeartbeats 2000000 in
theorem putListT_any (b B cap : Nat) (ao : Option Addr) (ss : List Ss) (l : List UInt8) (w : World) (h : WInv b w l) (hr : SessRow B w ao ss) (hB : B ≤ b)
    (hn : ∀ p ∈ ss, SFine p) (hnl : ss.length ≤ 8) (hl : l.length ≤ 10000000000) :
    Calls Try.prog 163 #[.pointer (some ⟨b, 0, none⟩), .slice ao ss.length cap, .func (.func 164) #[] #[]] w fun e w' => e = .returned (.tuple #[]) ∧ WInv b w' (l ++ encList encSs ss) ∧ Kept (Wr b) w w' := by
  have HR : Hid (SessRow B w ao ss) := hr
  have HN : Hid (∀ p ∈ ss, SFine p) := hn
  have HL : Hid (l.length ≤ 10000000000 ∧ B ≤ b) := ⟨hl, hB⟩
  have N0 := wNumber_any b ss.length l w h (by omega) (by omega)
  have hnl' : (ss.length : Int) ≤ 8 := by omega
  have HE0 : Hid ((enc ss.length).length ≤ 6) := enc_len6 (by omega)
  clear hr hn hl hB h
  go_enter Try.func163, Try.ntmps163
  go_wp2_with fail
  refine N0.mono ?_
  rintro e w1 ⟨rfl, i1, k1⟩
  have HK1 : Hid (Kept (Wr b) w w1) := k1
  have HI1 : Hid (WInv b w1 (l ++ enc ss.length)) := i1
  clear i1 k1 N0
  go_wp2
  go_loopw [14] (fun i wr => ∃ k : Nat, k ≤ ss.length ∧ i = .int .i64 k ∧ Hid (WInv b wr ((l ++ enc ss.length) ++ catAll encSs (ss.take k))) ∧ Hid (Kept (Wr b) w wr)) (fun i _ => ss.length - (intOf i).toNat)
  case atStart => exact ⟨0, Nat.zero_le _, rfl, by show WInv _ _ _; simpa [catAll] using HI1.out, HK1.out⟩
  case round =>
    obtain ⟨k, hk, rfl, HI, HK⟩ := hrel
    clear HI1 HK1
    by_cases hlt : k < ss.length
    · obtain ⟨a, ao2, c2, rfl, _, hc0, hc1, hc2, hc3, hc4, hc5, hc6, hst, _, _⟩ := (HR.out.kept HK.out (fun _ _ h => not_below HL.out.2 h)) k hlt
      have hfine := HN.out ss[k] (List.getElem_mem hlt)
      have HE : Hid (((l ++ enc ss.length) ++ catAll encSs (ss.take k)) ++ encSs ss[k] = (l ++ enc ss.length) ++ catAll encSs (ss.take (k + 1))) := by
        show _ = _
        rw [catAll_step encSs hlt, List.append_assoc, List.append_assoc]
      have HLE : Hid (((l ++ enc ss.length) ++ catAll encSs (ss.take k)).length ≤ 20000000000) := by
        have h1 := catAll_le encSs 818 (ss.take k) (fun x hx => (HN.out x (List.mem_of_mem_take hx)).enc)
        have h2 := HL.out.1
        have h3 := HE0.out
        show _ ≤ _
        simp only [List.length_append, List.length_take] at h1 ⊢
        omega
      have H := wSession_any b B c2 ss[k] ao2 _ _ (HI.out.alloc (.cells #[.int .i64 ss[k].cl, .int .i64 ss[k].ls, .int .i64 ss[k].kd, .string (bs ss[k].val), .int .i64 ss[k].ver, .slice ao2 ss[k].ks.length c2, .int .i64 ss[k].sn] 133)) (hst.alloc _) HL.out.2 hfine (by have := HLE.out; omega)
      rw [HE.out] at H
      generalize ss[k].cl = cl at *
      generalize ss[k].ls = ls at *
      generalize ss[k].kd = kd at *
      generalize ss[k].val = val at *
      generalize ss[k].ver = ver at *
      generalize ss[k].ks.length = kl at *
      generalize ss[k].sn = sn at *
      clear HI HE HLE hfine hst
      go_wp2_with fail
      refine H.mono ?_
      rintro e w' ⟨rfl, i', k'⟩
      have HK' : Hid (Kept (Wr b) w w') := (HK.out.alloc _).trans k'
      have HI' : Hid (WInv b w' ((l ++ enc ss.length) ++ catAll encSs (ss.take (k + 1)))) := i'
      clear i' k'
      go_wp2
      go_roundw
      case rel => exact ⟨k + 1, by omega, by go_num, HI'.out, HK'.out⟩
      case measure => simp [intOf]; omega
    · have HI2 : Hid (WInv b wr (l ++ encList encSs ss)) := by
        show WInv _ _ _
        have := HI.out
        rw [List.take_of_length_le (by omega), List.append_assoc] at this
        exact this
      go_wp2
      go_end0
      exact ⟨rfl, HI2.out, HK.out⟩

end Go.Proofs.Ytijklginabipgaa

namespace Go.Proofs.Ytijklginabipgaa
open Go.RowKit

theorem StrRow.mono {B B' : Nat} {w : World} {ao : Option Addr} {ks : List (List UInt8)} (h : StrRow B w ao ks) (hB : B ≤ B') : StrRow B' w ao ks := fun j hj => by
  obtain ⟨a, ha, hb, hc⟩ := h j hj
  exact ⟨a, ha, by omega, hc⟩
theorem StrRow.full {B : Nat} {w : World} {ao : Option Addr} {ks : List (List UInt8)} (h : StrRow B w ao ks) : StrRow w.heap.size w ao ks := fun j hj => by
  obtain ⟨a, ha, hb, hc, hl⟩ := h j hj
  have := World.block_lt_of_cell? w _ hc
  rw [add_block] at this
  exact ⟨a, ha, this, hc, hl⟩
theorem PairRow.full {B : Nat} {w : World} {ao : Option Addr} {ps : List Pr} (h : PairRow B w ao ps) : PairRow w.heap.size w ao ps := fun j hj => by
  obtain ⟨a, ha, hb, hc, hl⟩ := h j hj
  have := World.block_lt_of_cell? w _ hc
  rw [add_block] at this
  exact ⟨a, ha, this, hc, hl⟩
theorem SessRow.full {B : Nat} {w : World} {ao : Option Addr} {ss : List Ss} (h : SessRow B w ao ss) : SessRow w.heap.size w ao ss := fun j hj => by
  obtain ⟨a, ao2, c2, ha, hb, c0, c1, c2', c3, c4, c5, c6, hs, l1, l2⟩ := h j hj
  have := World.block_lt_of_cell? w _ c0
  rw [add_block] at this
  exact ⟨a, ao2, c2, ha, this, c0, c1, c2', c3, c4, c5, c6, hs.full, l1, l2⟩

theorem kRise_fine : ∀ {p : Option (List UInt8)} {ks : List (List UInt8)}, kRise p ks = true → ∀ x ∈ ks, x.length ≤ 16
  | _, [], _, x, hx => by simp at hx
  | p, k :: t, h, x, hx => by
    simp only [kRise, Bool.and_eq_true, decide_eq_true_eq] at h
    rcases List.mem_cons.mp hx with rfl | hx
    · exact h.1.1
    · exact kRise_fine h.2 x hx
theorem keysOk_fine {ks : List (List UInt8)} (h : keysOk ks = true) : KFine ks := by
  simp only [keysOk, Bool.and_eq_true, decide_eq_true_eq] at h
  exact ⟨kRise_fine h.2, h.1⟩
theorem isCnt_num {x : Int} (h : isCnt x = true) : isNum x = true := by
  simp only [isCnt, isNum, Bool.and_eq_true, decide_eq_true_eq] at h ⊢
  omega
theorem pRise_fine : ∀ {p : Option (List UInt8)} {ps : List Pr}, pRise p ps = true → ∀ x ∈ ps, PFine x
  | _, [], _, x, hx => by simp at hx
  | p, k :: t, h, x, hx => by
    simp only [pRise, prOk, Bool.and_eq_true, decide_eq_true_eq] at h
    rcases List.mem_cons.mp hx with rfl | hx
    · exact ⟨h.1.1.1.1.2, h.1.1.1.2, isCnt_num h.1.1.2⟩
    · exact pRise_fine h.2 x hx
theorem sRise_fine {tm : Int} : ∀ {p : Option Int} {ss : List Ss}, sRise tm p ss = true → ∀ x ∈ ss, SFine x
  | _, [], _, x, hx => by simp at hx
  | p, k :: t, h, x, hx => by
    simp only [sRise, ssOk, ssRs, rsOk, Bool.and_eq_true, decide_eq_true_eq] at h
    rcases List.mem_cons.mp hx with rfl | hx
    · obtain ⟨⟨⟨⟨⟨h1, h2, h3⟩, _⟩, ⟨⟨⟨h5, h6⟩, h7⟩, h8⟩⟩, _⟩, _⟩ := h
      exact ⟨isCnt_num h1, h2, h3, by simp only [isNum, Bool.and_eq_true, decide_eq_true_eq]; omega, h7, h6, keysOk_fine h8⟩
    · exact sRise_fine h.2 x hx

def encTab (tm : Int) (ps : List Pr) (ss : List Ss) : List UInt8 := enc tm.toNat ++ encList encPr ps ++ encList encSs ss
structure TFine (tm : Int) (ps : List Pr) (ss : List Ss) : Prop where
  ht : isNum tm = true
  hps : ∀ p ∈ ps, PFine p
  pl : ps.length ≤ 32
  hss : ∀ s ∈ ss, SFine s
  sl : ss.length ≤ 8
theorem tabOk_fine {tm : Int} {ps : List Pr} {ss : List Ss} (h : tabOk tm ps ss = true) : TFine tm ps ss := by
  simp only [tabOk, pairsOk, Bool.and_eq_true, decide_eq_true_eq] at h
  exact ⟨h.1.1.1, pRise_fine h.1.1.2.2, h.1.1.2.1, sRise_fine h.2, h.1.2⟩
theorem TFine.pe {tm : Int} {ps : List Pr} {ss : List Ss} (h : TFine tm ps ss) : (encList encPr ps).length ≤ 4000 := by
  have := encList_le encPr 98 (xs := ps) (fun x hx => (h.hps x hx).enc) (by have := h.pl; omega)
  have := h.pl
  omega

set_option maxRecDepth 100000 in
set_option maxHeartbeats 2000000 in
theorem wTable_any (b B cp cs : Nat) (tm : Int) (ao so : Option Addr) (ps : List Pr) (ss : List Ss) (t : List UInt8) (w : World) (h : WInv b w t) (hp : PairRow B w ao ps) (hq : SessRow B w so ss) (hB : B ≤ b) (hf : TFine tm ps ss) (hl : t.length ≤ 1000000000) :
    Calls Try.prog 109 #[.pointer (some ⟨b, 0, none⟩), .agg #[.slice ao ps.length cp, .slice so ss.length cs, .int .i64 tm]] w fun e w' => e = .returned (.tuple #[]) ∧ WInv b w' (t ++ encTab tm ps ss) ∧ Kept (Wr b) w w' := by
  have hlt := h.lt
  have HX : Hid (¬ Wr b w.heap.size (.cells #[.slice ao ps.length cp, .slice so ss.length cs, .int .i64 tm] 65)) := not_wr (Nat.ne_of_gt hlt) (by decide)
  have HB : Hid (_) := blk_new w (.cells #[.slice ao ps.length cp, .slice so ss.length cs, .int .i64 tm] 65)
  have H := wInt_any b tm t _ (h.alloc (.cells #[.slice ao ps.length cp, .slice so ss.length cs, .int .i64 tm] 65)) hf.ht (by omega)
  have HL : Hid (t.length ≤ 1000000000 ∧ TFine tm ps ss ∧ B ≤ b ∧ (enc tm.toNat).length ≤ 6 ∧ (encList encPr ps).length ≤ 4000) := ⟨hl, hf, hB, enc_len6 (isNum_nat hf.ht).2, hf.pe⟩
  have HP : Hid (PairRow B (w.alloc (.cells #[.slice ao ps.length cp, .slice so ss.length cs, .int .i64 tm] 65)) ao ps) := hp.alloc _
  have HQ : Hid (SessRow B (w.alloc (.cells #[.slice ao ps.length cp, .slice so ss.length cs, .int .i64 tm] 65)) so ss) := hq.alloc _
  have HE : Hid (t ++ encTab tm ps ss = ((t ++ enc tm.toNat) ++ encList encPr ps) ++ encList encSs ss) := by show _ = _; simp [encTab]
  rw [HE.out]
  clear hl hlt h hp hq hB hf
  go_enter Try.func109, Try.ntmps109
  go_wp2_with fail
  refine H.mono ?_
  rintro e w1 ⟨rfl, i1, k1⟩
  have X1 : Hid _ := k1.block _ _ HB.out HX.out
  have q0 := blk_at X1.out 0 rfl
  have P1 := putListP_any b B cp ao ps _ w1 i1 (HP.out.kept k1 (fun _ _ h => not_below HL.out.2.2.1 h)) HL.out.2.2.1 HL.out.2.1.hps HL.out.2.1.pl (by have := HL.out; simp only [List.length_append]; omega)
  go_wp2_with fail
  refine P1.mono ?_
  rintro e w2 ⟨rfl, i2, k2⟩
  have q1 := blk_at (k2.block _ _ X1.out HX.out) 1 rfl
  have K2 : Hid (Kept (Wr b) (w.alloc (.cells #[.slice ao ps.length cp, .slice so ss.length cs, .int .i64 tm] 65)) w2) := k1.trans k2
  have P2 := putListT_any b B cs so ss _ w2 i2 (HQ.out.kept K2.out (fun _ _ h => not_below HL.out.2.2.1 h)) HL.out.2.2.1 HL.out.2.1.hss HL.out.2.1.sl (by have := HL.out; simp only [List.length_append]; omega)
  go_wp2_with fail
  refine P2.mono ?_
  rintro e w3 ⟨rfl, i3, k3⟩
  go_wp2
  go_end0
  exact ⟨rfl, i3, (((Kept.refl _ _).alloc _).trans K2.out).trans k3⟩

set_option maxRecDepth 100000 in
set_option maxHeartbeats 1000000 in
theorem writeTab_ok (cp cs : Nat) (tm : Int) (ao so : Option Addr) (ps : List Pr) (ss : List Ss) (w : World) (hp : PairRow w.heap.size w ao ps) (hq : SessRow w.heap.size w so ss) (hf : TFine tm ps ss) (c : Int) :
    Calls Try.prog 107 #[.agg #[.slice ao ps.length cp, .slice so ss.length cs, .int .i64 tm], .bool true, .int .i64 c, .func (.func 109) #[] #[]] w fun e w' => e = .returned (.tuple #[.string (bs (encTab tm ps ss)), .int .i64 0]) ∧ Kept Nil w w' := by
  have hw := winv_new (w.alloc (.cells #[.slice ao ps.length cp, .slice so ss.length cs, .int .i64 tm] 65))
  have es : (w.alloc (.cells #[.slice ao ps.length cp, .slice so ss.length cs, .int .i64 tm] 65)).heap.size = w.heap.size + 1 := by simp
  rw [es] at hw
  have H1 := wTable_any (w.heap.size + 1) w.heap.size cp cs tm ao so ps ss [] _ hw ((hp.alloc _).alloc _) ((hq.alloc _).alloc _) (by omega) hf (by simp)
  simp only [List.nil_append] at H1
  clear hw es hp hq hf
  go_enter Try.func107, Try.ntmps107
  go_wp2_with fail
  refine H1.mono ?_
  rintro e w1 ⟨rfl, ⟨ao', c', hb, ho⟩, hk⟩
  have h0 := blk_at hb 0 rfl
  have hcv := conv_own ho
  go_wp2
  go_ret2
  exact ⟨rfl, hk.belowWr⟩

set_option maxRecDepth 100000 in
theorem writeTab_no (cs : Array Value) (w : World) (c : Int) (f : Value) :
    Calls Try.prog 107 #[.agg cs, .bool false, .int .i64 c, f] w fun e w' => e = .returned (.tuple #[.string (bs []), .int .i64 c]) ∧ Kept Nil w w' := by
  go_enter Try.func107, Try.ntmps107
  go_wp2
  go_ret2
  exact ⟨rfl, (Kept.refl _ _).alloc _⟩

def putTab (tm : Int) (ps : List Pr) (ss : List Ss) : List UInt8 × Int := if tabOk tm ps ss then (encTab tm ps ss, 0) else ([], 6)
theorem writeTab_any (cp cs : Nat) (tm : Int) (ao so : Option Addr) (ps : List Pr) (ss : List Ss) (w : World) (hp : PairRow w.heap.size w ao ps) (hq : SessRow w.heap.size w so ss) :
    Calls Try.prog 107 #[.agg #[.slice ao ps.length cp, .slice so ss.length cs, .int .i64 tm], .bool (tabOk tm ps ss), .int .i64 6, .func (.func 109) #[] #[]] w fun e w' => e = .returned (.tuple #[.string (bs (putTab tm ps ss).1), .int .i64 (putTab tm ps ss).2]) ∧ Kept Nil w w' := by
  unfold putTab
  cases hok : tabOk tm ps ss with
  | false => exact writeTab_no _ w 6 _
  | true => exact writeTab_ok cp cs tm ao so ps ss w hp hq (tabOk_fine hok) 6

set_option maxRecDepth 100000 in
set_option maxHeartbeats 1000000 in
theorem putTable_any (B cp cs : Nat) (tm : Int) (ao so : Option Addr) (ps : List Pr) (ss : List Ss) (w : World) (hp : PairRow B w ao ps) (hq : SessRow B w so ss) (hl : (ps.length : Int) ≤ 9223372036854775807) (hl2 : (ss.length : Int) ≤ 9223372036854775807) :
    Calls Try.prog 52 #[.agg #[.slice ao ps.length cp, .slice so ss.length cs, .int .i64 tm]] w fun e w' => e = .returned (.tuple #[.string (bs (putTab tm ps ss).1), .int .i64 (putTab tm ps ss).2]) ∧ Kept Nil w w' := by
  have HP : Hid (PairRow B w ao ps ∧ SessRow B w so ss) := ⟨hp, hq⟩
  have H1 := fun w' (hk : Kept Nil w w') => isTable_any B cp cs tm ao so ps ss w' (HP.out.1.nil hk) (HP.out.2.nil hk) hl hl2
  have H2 := fun w' (hk : Kept Nil w w') => writeTab_any cp cs tm ao so ps ss w' (HP.out.1.nil hk).full (HP.out.2.nil hk).full
  generalize tabOk tm ps ss = okb at H1 H2
  generalize putTab tm ps ss = pr at H2 ⊢
  obtain ⟨p1, p2⟩ := pr
  simp only at H2 ⊢
  clear hp hq hl hl2
  have HB : Hid (_) := blk_new w (.cells #[.slice ao ps.length cp, .slice so ss.length cs, .int .i64 tm] 65)
  have HK : Hid (Kept Nil w (w.alloc (.cells #[.slice ao ps.length cp, .slice so ss.length cs, .int .i64 tm] 65)).drew) := ((Kept.refl _ _).alloc _).drew
  go_enter Try.func52, Try.ntmps52
  go_wp2
  go_region_with (first | (go_at_call 108; go_must (refine (H1 _ HK.out).mono ?_); rintro e w1 ⟨rfl, k1⟩; have X1 := k1.block _ _ HB.out (fun x => x.elim); have q0 := blk_at X1 0 rfl; have q1 := blk_at X1 1 rfl; have q2 := blk_at X1 2 rfl; have HK1 : Hid (Kept Nil w w1) := HK.out.trans k1; clear X1) | (go_at_call 107; go_must (refine (H2 _ HK1.out).mono ?_); rintro e w2 ⟨rfl, k2⟩))
  all_goals go_wp2
  all_goals go_ret2
  all_goals exact ⟨rfl, HK1.out.trans k2⟩

end Go.Proofs.Ytijklginabipgaa
