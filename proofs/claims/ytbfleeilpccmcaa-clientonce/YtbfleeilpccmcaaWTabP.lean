/-
  Lists of texts and of pairs, results, sessions and tables, written by the program.
  Sessions, tables, written by the program.
  A table written by the program: writer.table, write, PutTable.
-/
import Derived.Test.YtbfleeilpccmcaaWOld
import Derived.Test.YtbfleeilpccmcaaWCfg3
import Derived.Test.YtbfleeilpccmcaaWSnap1
namespace Go.Proofs.Ytbfleeilpccmcaa
open Go.RowKit

def catAll {α : Type} (f : α → List UInt8) (xs : List α) : List UInt8 := (xs.map f).flatten
theorem catAll_step {α : Type} (f : α → List UInt8) {xs : List α} {k : Nat} (h : k < xs.length) : catAll f (xs.take (k + 1)) = catAll f (xs.take k) ++ f xs[k] := by
  rw [List.take_succ_eq_append_getElem h]
  simp only [catAll, List.map_append, List.flatten_append, List.map_cons, List.map_nil, List.flatten_cons, List.flatten_nil, List.append_nil]
theorem catAll_le {α : Type} (f : α → List UInt8) (M : Nat) : ∀ (xs : List α), (∀ x ∈ xs, (f x).length ≤ M) → (catAll f xs).length ≤ M * xs.length
  | [], _ => by simp [catAll]
  | x :: t, h => by
    have h1 := h x (by simp)
    have h2 := catAll_le f M t (fun y hy => h y (by simp [hy]))
    simp only [catAll, List.map_cons, List.flatten_cons, List.length_append, List.length_cons] at h2 ⊢
    rw [Nat.mul_succ]
    omega
def encList {α : Type} (f : α → List UInt8) (xs : List α) : List UInt8 := enc xs.length ++ catAll f xs
theorem encList_le {α : Type} (f : α → List UInt8) (M : Nat) {xs : List α} (h : ∀ x ∈ xs, (f x).length ≤ M) (hl : xs.length ≤ 1000) : (encList f xs).length ≤ 6 + M * xs.length := by
  have h1 := catAll_le f M xs h
  have h2 := enc_len6 (n := xs.length) (by omega)
  simp only [encList, List.length_append]
  omega
structure KFine (ks : List (List UInt8)) : Prop where
  le : ∀ x ∈ ks, x.length ≤ 16
  len : ks.length ≤ 32
theorem KFine.enc {ks : List (List UInt8)} (h : KFine ks) : (encList encText ks).length ≤ 710 := by
  have := encList_le encText 22 (xs := ks) (fun x hx => by have := h.le x hx; have := encText_len (l := x) (by omega); omega) (by have := h.len; omega)
  have := h.len
  omega
def encPr (p : Pr) : List UInt8 := encText p.k ++ encText p.v ++ enc p.n.toNat
structure PFine (p : Pr) : Prop where
  k : p.k.length ≤ 16
  v : p.v.length ≤ 64
  n : isNum p.n = true
theorem PFine.enc {p : Pr} (h : PFine p) : (encPr p).length ≤ 98 := by
  have h1 := h.k
  have h2 := h.v
  have h3 := enc_len6 (isNum_nat h.n).2
  have h4 := encText_len (l := p.k) (by omega)
  have h5 := encText_len (l := p.v) (by omega)
  simp only [encPr, List.length_append]
  omega
def encRs (kd : Int) (val : List UInt8) (ver : Int) (ks : List (List UInt8)) : List UInt8 := enc kd.toNat ++ encText val ++ enc ver.toNat ++ encList encText ks
def encSs (s : Ss) : List UInt8 := encAll [s.cl.toNat, s.ls.toNat, s.sn.toNat] ++ encRs s.kd s.val s.ver s.ks
structure SFine (s : Ss) : Prop where
  cl : isNum s.cl = true
  ls : isNum s.ls = true
  sn : isNum s.sn = true
  kd : isNum s.kd = true
  ver : isNum s.ver = true
  val : s.val.length ≤ 64
  ks : KFine s.ks
theorem encRs_le {kd ver : Int} {val : List UInt8} {ks : List (List UInt8)} (h1 : isNum kd = true) (h2 : isNum ver = true) (h3 : val.length ≤ 64) (h4 : KFine ks) : (encRs kd val ver ks).length ≤ 800 := by
  have g1 := enc_len6 (isNum_nat h1).2
  have g2 := enc_len6 (isNum_nat h2).2
  have g3 := encText_len (l := val) (by omega)
  have g4 := h4.enc
  simp only [encRs, List.length_append]
  omega
theorem SFine.enc {s : Ss} (h : SFine s) : (encSs s).length ≤ 818 := by
  have g := encRs_le h.kd h.ver h.val h.ks
  have g2 := encAll_len [s.cl.toNat, s.ls.toNat, s.sn.toNat] (by intro n hn; simp at hn; rcases hn with rfl | rfl | rfl; exact (isNum_nat h.cl).2; exact (isNum_nat h.ls).2; exact (isNum_nat h.sn).2)
  simp only [List.length_cons, List.length_nil] at g2
  simp only [encSs, List.length_append]
  omega

end Go.Proofs.Ytbfleeilpccmcaa

namespace Go.Proofs.Ytbfleeilpccmcaa
open Go.RowKit

end Go.Proofs.Ytbfleeilpccmcaa

namespace Go.Proofs.Ytbfleeilpccmcaa
open Go.RowKit

theorem StrRow.mono {B B' : Nat} {w : World} {ao : Option Addr} {ks : List (List UInt8)} (h : StrRow B w ao ks) (hB : B ≤ B') : StrRow B' w ao ks := fun j hj => by
  obtain ⟨a, ha, hb, hc⟩ := h j hj
  exact ⟨a, ha, by omega, hc⟩
theorem StrRow.full {B : Nat} {w : World} {ao : Option Addr} {ks : List (List UInt8)} (h : StrRow B w ao ks) : StrRow w.heap.size w ao ks := fun j hj => by
  obtain ⟨a, ha, hb, hc, hl⟩ := h j hj
  have := World.block_lt_of_cell? w _ hc
  rw [add_block] at this
  exact ⟨a, ha, this, hc, hl⟩
theorem PairRow.full {B : Nat} {w : World} {ao : Option Addr} {ps : List Pr} (h : PairRow B w ao ps) : PairRow w.heap.size w ao ps := fun j hj => by
  obtain ⟨a, ha, hb, hc, hl⟩ := h j hj
  have := World.block_lt_of_cell? w _ hc
  rw [add_block] at this
  exact ⟨a, ha, this, hc, hl⟩
theorem SessRow.full {B : Nat} {w : World} {ao : Option Addr} {ss : List Ss} (h : SessRow B w ao ss) : SessRow w.heap.size w ao ss := fun j hj => by
  obtain ⟨a, ao2, c2, ha, hb, c0, c1, c2', c3, c4, c5, c6, hs, l1, l2⟩ := h j hj
  have := World.block_lt_of_cell? w _ c0
  rw [add_block] at this
  exact ⟨a, ao2, c2, ha, this, c0, c1, c2', c3, c4, c5, c6, hs.full, l1, l2⟩

theorem kRise_fine : ∀ {p : Option (List UInt8)} {ks : List (List UInt8)}, kRise p ks = true → ∀ x ∈ ks, x.length ≤ 16
  | _, [], _, x, hx => by simp at hx
  | p, k :: t, h, x, hx => by
    simp only [kRise, Bool.and_eq_true, decide_eq_true_eq] at h
    rcases List.mem_cons.mp hx with rfl | hx
    · exact h.1.1
    · exact kRise_fine h.2 x hx
theorem keysOk_fine {ks : List (List UInt8)} (h : keysOk ks = true) : KFine ks := by
  simp only [keysOk, Bool.and_eq_true, decide_eq_true_eq] at h
  exact ⟨kRise_fine h.2, h.1⟩
theorem isCnt_num {x : Int} (h : isCnt x = true) : isNum x = true := by
  simp only [isCnt, isNum, Bool.and_eq_true, decide_eq_true_eq] at h ⊢
  omega
theorem pRise_fine : ∀ {p : Option (List UInt8)} {ps : List Pr}, pRise p ps = true → ∀ x ∈ ps, PFine x
  | _, [], _, x, hx => by simp at hx
  | p, k :: t, h, x, hx => by
    simp only [pRise, prOk, Bool.and_eq_true, decide_eq_true_eq] at h
    rcases List.mem_cons.mp hx with rfl | hx
    · exact ⟨h.1.1.1.1.2, h.1.1.1.2, isCnt_num h.1.1.2⟩
    · exact pRise_fine h.2 x hx
theorem sRise_fine {tm : Int} : ∀ {p : Option Int} {ss : List Ss}, sRise tm p ss = true → ∀ x ∈ ss, SFine x
  | _, [], _, x, hx => by simp at hx
  | p, k :: t, h, x, hx => by
    simp only [sRise, ssOk, ssRs, rsOk, Bool.and_eq_true, decide_eq_true_eq] at h
    rcases List.mem_cons.mp hx with rfl | hx
    · obtain ⟨⟨⟨⟨⟨h1, h2, h3⟩, _⟩, ⟨⟨⟨h5, h6⟩, h7⟩, h8⟩⟩, _⟩, _⟩ := h
      exact ⟨isCnt_num h1, h2, h3, by simp only [isNum, Bool.and_eq_true, decide_eq_true_eq]; omega, h7, h6, keysOk_fine h8⟩
    · exact sRise_fine h.2 x hx

def encTab (tm : Int) (ps : List Pr) (ss : List Ss) : List UInt8 := enc tm.toNat ++ encList encPr ps ++ encList encSs ss
structure TFine (tm : Int) (ps : List Pr) (ss : List Ss) : Prop where
  ht : isNum tm = true
  hps : ∀ p ∈ ps, PFine p
  pl : ps.length ≤ 32
  hss : ∀ s ∈ ss, SFine s
  sl : ss.length ≤ 8
theorem tabOk_fine {tm : Int} {ps : List Pr} {ss : List Ss} (h : tabOk tm ps ss = true) : TFine tm ps ss := by
  simp only [tabOk, pairsOk, Bool.and_eq_true, decide_eq_true_eq] at h
  exact ⟨h.1.1.1, pRise_fine h.1.1.2.2, h.1.1.2.1, sRise_fine h.2, h.1.2⟩
theorem TFine.pe {tm : Int} {ps : List Pr} {ss : List Ss} (h : TFine tm ps ss) : (encList encPr ps).length ≤ 4000 := by
  have := encList_le encPr 98 (xs := ps) (fun x hx => (h.hps x hx).enc) (by have := h.pl; omega)
  have := h.pl
  omega

def putTab (tm : Int) (ps : List Pr) (ss : List Ss) : List UInt8 × Int := if tabOk tm ps ss then (encTab tm ps ss, 0) else ([], 6)
end Go.Proofs.Ytbfleeilpccmcaa
