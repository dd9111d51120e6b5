/-
  Lists of keys, read by the program.
  A pair read by the program's reader.
  Lists of pairs, read by the program.
  A result read by the program's reader.
  A session read by the program's reader.
  Lists of sessions, read by the program: a row of seven cells each, and each one's keys.
  Rows that are owned, as rows that can be read; what was read is small.
  A table read by the program's reader.
  What a row is behind read's own blocks.
-/
import Derived.Test.YtijklginabipgaaWTabP
import Derived.Test.YtijklginabipgaaWCfg6
import Derived.Test.YtijklginabipgaaWNums
namespace Go.Proofs.Ytijklginabipgaa
open Go.RowKit

theorem key_ok {p : Addr} {l t s : List UInt8} {w : World} (hl : Left p w l) (hr : rdText 16 l = .ok (s, t)) :
    Calls Try.prog 207 #[.pointer (some p)] w fun e w' => e = .returned (.string (bs s)) ∧ w'.cell? p = some (.string (bs t)) ∧ w'.frozen? p = false ∧ Kept (One p.block) w w' := by
  refine (RdPost.ok (key_any p l w hl) hr).mono ?_
  rintro e w' ⟨v, rfl, rfl, h⟩
  exact ⟨rfl, h⟩
theorem key_no {p : Addr} {l : List UInt8} {c : Int} {w : World} (hl : Left p w l) (hr : rdText 16 l = .error c) :
    Calls Try.prog 207 #[.pointer (some p)] w fun e w' => e = .panicked (up c) ∧ Kept (One p.block) w w' := RdPost.no (key_any p l w hl) hr

def strCells (ns : List (List UInt8)) : List Value := ns.map fun n => Value.string (bs n)
theorem strCells_snoc (ns : List (List UInt8)) (n : List UInt8) : strCells (ns ++ [n]) = strCells ns ++ [.string (bs n)] := by simp [strCells]
def OwnStrs (B : Nat) (w : World) (ao : Option Addr) (c : Nat) (ns : List (List UInt8)) : Prop := w.ownsRow B 9 1 (.slice ao ns.length c) ns.length (strCells ns)
def StrsV (B : Nat) : List (List UInt8) → World → Value → Prop := fun ns w v => ∃ ao c, v = .slice ao ns.length c ∧ OwnStrs B w ao c ns

theorem Try.infoStr : (Try.prog.info? 9).map (fun i => (i.zero, i.size, i.bytes)) = some (some (.string ⟨#[]⟩), 1, 16) := by kernel_rfl

theorem src_str1 {w : World} (z : List UInt8) : Src Try.prog 1 129 (.slice (some ⟨w.heap.size, 0, none⟩) 1 1) 1 [.string (bs z)] (w.alloc (.cells #[.string (bs z)] 9)) := by
  refine Src.ofSlice _ Try.underlying129 _ 1 1 _ rfl ?_ ?_
  · intro j u hj
    match j, hj with
    | 0, hj =>
      simp at hj
      subst hj
      simp [Addr.add]
  · intro u hu
    simp at hu
    subst hu
    rfl

theorem OwnStrs.push {B : Nat} {w' : World} {ao : Option Addr} {c : Nat} {ns : List (List UInt8)} {n : List UInt8} (h : w'.ownsRow B 9 1 (.slice ao (ns.length + 1) c) (ns.length + 1) (strCells ns ++ [.string (bs n)])) : OwnStrs B w' ao c (ns ++ [n]) := by
  unfold OwnStrs
  rw [strCells_snoc, List.length_append]
  exact h

set_option maxRecDepth 100000 in
set_option maxHeartbeats 1000000 in
theorem timesS_any (p : Addr) (n : Nat) (l : List UInt8) (w : World) (hl : Left p w l) (hn : (n : Int) ≤ 1000000) :
    Calls Try.prog 226 #[.pointer (some p), .int .i64 n, .func (.func 207) #[] #[]] w (RdPost p w (rdTimes (rdText 16) n l) (StrsV w.heap.size)) := by
  obtain ⟨i0, hi, hz0, hz1, hz2⟩ := info_parts Try.infoStr
  have HP : Hid (p.block < w.heap.size) := cell_lt hl.cell
  go_enter Try.func226, Try.ntmps226
  go_wp2
  go_loopw [7, 9] (fun v i wr => ∃ k : Nat, ∃ xs : List (List UInt8), ∃ t : List UInt8, ∃ ao c, k ≤ n ∧ i = .int .i64 k ∧ Hid (xs.length = k) ∧ v = .slice ao xs.length c ∧ Hid (OwnStrs w.heap.size wr ao c xs) ∧ Hid (rdTimes (rdText 16) n l = preT xs (rdTimes (rdText 16) (n - k) t)) ∧ Left p wr t ∧ Hid (Kept (One p.block) w wr)) (fun _ i _ => n - (intOf i).toNat)
  case atStart => exact ⟨0, [], l, none, 0, by omega, rfl, rfl, rfl, World.ownsRow_nil _ _ _ _, (preT_nil _).symm, hl, Kept.refl _ _⟩
  case round =>
    obtain ⟨k, xs, t, ao, c, hk, rfl, HA, rfl, HO, HE, hl', HK⟩ := hrel
    clear hl
    by_cases hkn : k < n
    · cases hr : rdText 16 t with
      | error e0 =>
        have HR : Hid (rdTimes (rdText 16) n l = .error e0) := by
          show rdTimes (rdText 16) n l = _
          rw [HE.out, show n - k = (n - k - 1) + 1 by omega]
          exact rdTimes_no hr
        go_wp2_with (go_at_call 207; refine (key_no hl' hr).mono ?_; rintro e w' ⟨rfl, hk'⟩)
        unfold bodyPost RdPost
        rw [HR.out]
        exact ⟨rfl, rfl, HK.out.trans hk'⟩
      | ok r =>
        obtain ⟨a, u⟩ := r
        have HR : Hid (rdTimes (rdText 16) n l = preT (xs ++ [a]) (rdTimes (rdText 16) (n - (k + 1)) u)) := by
          show rdTimes (rdText 16) n l = _
          rw [HE.out, show n - k = (n - (k + 1)) + 1 by omega]
          exact rdTimes_more hr
        have HLL : Hid (xs.length + 1 ≤ maxLen ∧ (xs.length + 1) * 16 ≤ 140737488355328) := by
          have := HA.out
          constructor
          · unfold maxLen; omega
          · omega
        have N := key_ok hl' hr
        clear hr hl'
        go_wp2_with (first | (go_at_call 207; refine N.mono ?_; rintro e w' ⟨rfl, hc', hz', hk'⟩; have HL' : Hid (Left p w' u) := ⟨hc', hz'⟩; have HK' : Hid (Kept (One p.block) w w') := HK.out.trans hk'; have ho : w'.ownsRow w.heap.size 9 1 (.slice ao xs.length c) xs.length (strCells xs) := own_kept HO.out hk' (fun k cs hb hx => by have := HP.out; have : k = p.block := hx; omega); clear hc' hz' hk') | (at_builtin; go_must (refine wpList_append_src _ rfl _ _ 129 129 rfl w.heap.size 9 i0 (.string ⟨#[]⟩) 1 16 Try.underlying129 hi hz0 hz1 hz2 rfl _ _ _ rfl (ho.alloc _) (.slice (some ⟨w'.heap.size, 0, none⟩) 1 1) 1 [.string (bs a)] rfl (src_str1 _) HLL.out.1 HLL.out.2 (le_alloc HK'.out.size _) ?_); intro ao' c' w1 ho' hg'; have HL1 : Hid (Left p w1 u) := by { have h1 := HL'.out.alloc (.cells #[.string (bs a)] 9); have hne : some p.block ≠ (Value.slice ao xs.length c).ownBlock := (fun e => by have := (ho.lt _ e.symm).1; have := HP.out; omega); have hb := hg'.block p.block (cell_lt h1.cell) hne; exact ⟨(World.cell?_of_block hb).trans h1.cell, (World.frozen?_of_block hb).trans h1.free⟩ }; have HK1 : Hid (Kept (One p.block) w w1) := (HK'.out.alloc _).grown hg' (own_row ho); clear hg'))
        go_roundw
        case rel => exact ⟨k + 1, xs ++ [a], u, ao', c', by omega, by go_num, by have := HA.out; show (xs ++ [a]).length = k + 1; simp; omega, by rw [List.length_append]; rfl, OwnStrs.push ho', HR, HL1.out, HK1.out⟩
        case measure => simp [intOf]; omega
    · have HR : Hid (rdTimes (rdText 16) n l = .ok (xs, t)) := by
        show rdTimes (rdText 16) n l = _
        rw [HE.out, show n - k = 0 by omega]
        simp [rdTimes, preT]
      go_wp2
      go_ret
      unfold RdPost
      rw [HR.out]
      exact ⟨⟨_, rfl, ao, c, rfl, HO.out⟩, hl', HK.out⟩

/-- A count, and so many numbers. -/
def rdKeys (most : Nat) (l : List UInt8) : Except Int (List (List UInt8) × List UInt8) := rdThen (rdUpTo most l) fun n l => rdTimes (rdText 16) n l

theorem strsV_mono {B B' : Nat} {ns : List (List UInt8)} {w : World} {v : Value} (h : StrsV B ns w v) (hb : B' ≤ B) : StrsV B' ns w v := by
  obtain ⟨ao, c, rfl, ho⟩ := h
  exact ⟨ao, c, rfl, own_mono ho hb⟩

set_option maxRecDepth 100000 in
set_option maxHeartbeats 1000000 in
theorem listS_any (p : Addr) (most : Nat) (l : List UInt8) (w : World) (hl : Left p w l) (hm : (most : Int) ≤ 1000000) :
    Calls Try.prog 223 #[.pointer (some p), .int .i64 most, .func (.func 207) #[] #[]] w (RdPost p w (rdKeys most l) (StrsV w.heap.size)) := by
  cases r1 : rdUpTo most l with
  | error c =>
    have HR : Hid (rdKeys most l = .error c) := rdThen_no r1
    go_enter Try.func223, Try.ntmps223
    go_wp2_with fail
    refine (upTo_no hl r1).mono ?_
    rintro e w1 ⟨rfl, k1⟩
    go_wp2
    unfold bodyPost RdPost
    rw [HR.out]
    exact ⟨rfl, rfl, k1⟩
  | ok x1 =>
    obtain ⟨n, l1⟩ := x1
    have hn := (rdUpTo_ok r1).1
    have hn' : (n : Int) ≤ 1000000 := by omega
    have HR : Hid (rdKeys most l = rdTimes (rdText 16) n l1) := rdThen_ok r1
    clear hm
    cases r2 : rdTimes (rdText 16) n l1 with
    | error c =>
      go_enter Try.func223, Try.ntmps223
      go_wp2_with fail
      refine (upTo_ok hl r1).mono ?_
      rintro e w1 ⟨rfl, c1, z1, k1⟩
      go_wp2_with fail
      refine (RdPost.no (timesS_any p n l1 w1 ⟨c1, z1⟩ hn') r2).mono ?_
      rintro e w2 ⟨rfl, k2⟩
      go_wp2
      unfold bodyPost RdPost
      rw [HR.out, r2]
      exact ⟨rfl, rfl, k1.trans k2⟩
    | ok x2 =>
      obtain ⟨ns, l2⟩ := x2
      go_enter Try.func223, Try.ntmps223
      go_wp2_with fail
      refine (upTo_ok hl r1).mono ?_
      rintro e w1 ⟨rfl, c1, z1, k1⟩
      go_wp2_with fail
      refine (RdPost.ok (timesS_any p n l1 w1 ⟨c1, z1⟩ hn') r2).mono ?_
      rintro e w2 ⟨v, rfl, hv, c2, z2, k2⟩
      go_wp2
      go_ret
      unfold RdPost
      rw [HR.out, r2]
      exact ⟨⟨_, rfl, strsV_mono hv k1.size⟩, ⟨c2, z2⟩, k1.trans k2⟩


end Go.Proofs.Ytijklginabipgaa

namespace Go.Proofs.Ytijklginabipgaa
open Go.RowKit

def rdPr (l : List UInt8) : Except Int (Pr × List UInt8) :=
  rdThen (rdText 16 l) fun k l => rdThen (rdText 64 l) fun v l => rdThen (rdNum l) fun n l => .ok (⟨k, v, (n : Int)⟩, l)
def PrV : Pr → World → Value → Prop := fun x _ v => v = .agg #[.string (bs x.k), .string (bs x.v), .int .i64 x.n]

set_option maxRecDepth 100000 in
set_option maxHeartbeats 4000000 in
theorem rPair_any (p : Addr) (l : List UInt8) (w : World) (hl : Left p w l) :
    Calls Try.prog 167 #[.pointer (some p)] w (RdPost p w (rdPr l) (PrV)) := by
  have HB : Hid (p.block < w.heap.size) := cell_lt hl.cell
  have HN : Hid (_) := blk_new w (.cells #[.string (bs []), .string (bs []), .int .i64 0] 128)
  have HX : Hid (¬ One p.block w.heap.size (.cells #[.string (bs []), .string (bs []), .int .i64 0] 128 (0, 0))) := fun (e : w.heap.size = p.block) => by have := HB.out; omega
  have hla := hl.alloc (.cells #[.string (bs []), .string (bs []), .int .i64 0] 128)
  clear hl
  cases r1 : rdText 16 l with
  | error c =>
    have HR : Hid (rdPr l = .error c) := rdThen_no r1
    go_enter Try.func167, Try.ntmps167
    go_wp2_with fail
    refine (RdPost.no (key_any p l _ hla) r1).mono ?_
    rintro e w1 ⟨rfl, k1⟩
    go_wp2
    unfold bodyPost RdPost
    rw [HR.out]
    exact ⟨rfl, rfl, (((Kept.refl _ _).alloc _).trans k1)⟩
  | ok x1 =>
  obtain ⟨key, l1⟩ := x1
  cases r2 : rdText 64 l1 with
  | error c =>
    have HR : Hid (rdPr l = .error c) := (rdThen_ok r1).trans (rdThen_no r2)
    go_enter Try.func167, Try.ntmps167
    go_wp2_with fail
    refine (RdPost.ok (key_any p l _ hla) r1).mono ?_
    rintro e w1 ⟨v1, rfl, hv1, c1, z1, k1⟩
    obtain rfl : v1 = .string (bs key) := hv1
    go_wp2_with fail
    refine (text_no ⟨c1, z1⟩ r2).mono ?_
    rintro e w2 ⟨rfl, k2⟩
    go_wp2
    unfold bodyPost RdPost
    rw [HR.out]
    exact ⟨rfl, rfl, ((((Kept.refl _ _).alloc _).trans k1).trans k2)⟩
  | ok x2 =>
  obtain ⟨val, l2⟩ := x2
  cases r3 : rdNum l2 with
  | error c =>
    have HR : Hid (rdPr l = .error c) := (rdThen_ok r1).trans ((rdThen_ok r2).trans (rdThen_no r3))
    go_enter Try.func167, Try.ntmps167
    go_wp2_with fail
    refine (RdPost.ok (key_any p l _ hla) r1).mono ?_
    rintro e w1 ⟨v1, rfl, hv1, c1, z1, k1⟩
    obtain rfl : v1 = .string (bs key) := hv1
    go_wp2_with fail
    refine (text_ok ⟨c1, z1⟩ r2).mono ?_
    rintro e w2 ⟨rfl, c2, z2, k2⟩
    go_wp2_with fail
    refine (number_no ⟨c2, z2⟩ r3).mono ?_
    rintro e w3 ⟨rfl, k3⟩
    go_wp2
    unfold bodyPost RdPost
    rw [HR.out]
    exact ⟨rfl, rfl, (((((Kept.refl _ _).alloc _).trans k1).trans k2).trans k3)⟩
  | ok x3 =>
  obtain ⟨n, l3⟩ := x3
  have HR : Hid (rdPr l = .ok (⟨key, val, (n : Int)⟩, l3)) := (rdThen_ok r1).trans ((rdThen_ok r2).trans (rdThen_ok r3))
  go_enter Try.func167, Try.ntmps167
  go_wp2_with fail
  refine (RdPost.ok (key_any p l _ hla) r1).mono ?_
  rintro e w1 ⟨v1, rfl, hv1, c1, z1, k1⟩
  obtain rfl : v1 = .string (bs key) := hv1
  go_wp2_with fail
  refine (text_ok ⟨c1, z1⟩ r2).mono ?_
  rintro e w2 ⟨rfl, c2, z2, k2⟩
  go_wp2_with fail
  refine (number_ok ⟨c2, z2⟩ r3).mono ?_
  rintro e w3 ⟨rfl, c3, z3, k3⟩
  have hbr := k3.block _ _ (k2.block _ _ (k1.block _ _ (HN.out) HX.out) HX.out) HX.out
  have g0 := blk_at hbr 0 rfl
  have g1 := blk_at hbr 1 rfl
  have g2 := blk_at hbr 2 rfl
  have f0 := blk_free hbr 0
  have f1 := blk_free hbr 1
  have f2 := blk_free hbr 2
  have hkk : Kept (One p.block) w w3 := (((((Kept.refl _ _).alloc _).trans k1).trans k2).trans k3)
  have hln : Left p w3 l3 := ⟨c3, z3⟩
  go_wp2
  refine bodyPost_ret (v := .agg #[.string (bs key), .string (bs val), .int .i64 n]) (by simp [results, Try.results167, go_sem, g0, g1, g2]) rfl ?_
  unfold RdPost
  rw [HR.out]
  have hne : p.block ≠ w.heap.size := Nat.ne_of_lt HB.out
  exact ⟨⟨_, rfl, rfl⟩, (((hln.other hne _).other hne _).other hne _), (((hkk.setNew (Nat.le_refl _) _).setNew (Nat.le_refl _) _).setNew (Nat.le_refl _) _)⟩

end Go.Proofs.Ytijklginabipgaa

namespace Go.Proofs.Ytijklginabipgaa
open Go.RowKit

theorem rPr_ok {p : Addr} {l t : List UInt8} {s : Pr} {w : World} (hl : Left p w l) (hr : rdPr l = .ok (s, t)) :
    Calls Try.prog 167 #[.pointer (some p)] w fun e w' => e = .returned (.agg #[.string (bs s.k), .string (bs s.v), .int .i64 s.n]) ∧ w'.cell? p = some (.string (bs t)) ∧ w'.frozen? p = false ∧ Kept (One p.block) w w' := by
  refine (RdPost.ok (rPair_any p l w hl) hr).mono ?_
  rintro e w' ⟨v, rfl, rfl, h⟩
  exact ⟨rfl, h⟩
theorem rPr_no {p : Addr} {l : List UInt8} {c : Int} {w : World} (hl : Left p w l) (hr : rdPr l = .error c) :
    Calls Try.prog 167 #[.pointer (some p)] w fun e w' => e = .panicked (up c) ∧ Kept (One p.block) w w' := RdPost.no (rPair_any p l w hl) hr
def prCells (ns : List Pr) : List Value := ns.flatMap fun n => [Value.string (bs n.k), .string (bs n.v), .int .i64 n.n]
theorem prCells_snoc (ns : List Pr) (n : Pr) : prCells (ns ++ [n]) = prCells ns ++ [.string (bs n.k), .string (bs n.v), .int .i64 n.n] := by simp [prCells]
def OwnPrs (B : Nat) (w : World) (ao : Option Addr) (c : Nat) (ns : List Pr) : Prop := w.ownsRow B 128 3 (.slice ao ns.length c) ns.length (prCells ns)
def PrsV (B : Nat) : List Pr → World → Value → Prop := fun ns w v => ∃ ao c, v = .slice ao ns.length c ∧ OwnPrs B w ao c ns

theorem Try.infoPr : (Try.prog.info? 128).map (fun i => (i.zero, i.size, i.bytes)) = some (some (.agg #[.string ⟨#[]⟩, .string ⟨#[]⟩, .int .i64 0]), 3, 40) := by kernel_rfl

theorem src_pr {w : World} (z : Pr) : Src Try.prog 3 62 (.slice (some ⟨w.heap.size, 0, none⟩) 1 1) 1 [.string (bs z.k), .string (bs z.v), .int .i64 z.n] (w.alloc (.cells #[.string (bs z.k), .string (bs z.v), .int .i64 z.n] 128)) := by
  refine Src.ofSlice _ Try.underlying62 _ 1 1 _ rfl ?_ ?_
  · intro j u hj
    match j, hj with
    | 0, hj =>
      simp at hj
      subst hj
      simp [Addr.add]
    | 1, hj =>
      simp at hj
      subst hj
      simp [Addr.add]
    | 2, hj =>
      simp at hj
      subst hj
      simp [Addr.add]
  · intro u hu
    simp at hu
    rcases hu with rfl | rfl | rfl <;> rfl

theorem OwnPrs.push {B : Nat} {w' : World} {ao : Option Addr} {c : Nat} {ns : List Pr} {n : Pr} (h : w'.ownsRow B 128 3 (.slice ao (ns.length + 1) c) (ns.length + 1) (prCells ns ++ [.string (bs n.k), .string (bs n.v), .int .i64 n.n])) : OwnPrs B w' ao c (ns ++ [n]) := by
  unfold OwnPrs
  rw [prCells_snoc, List.length_append]
  exact h

set_option maxRecDepth 100000 in
set_option maxHeartbeats 1000000 in
theorem timesP_any (p : Addr) (n : Nat) (l : List UInt8) (w : World) (hl : Left p w l) (hn : (n : Int) ≤ 1000000) :
    Calls Try.prog 206 #[.pointer (some p), .int .i64 n, .func (.func 167) #[] #[]] w (RdPost p w (rdTimes rdPr n l) (PrsV w.heap.size)) := by
  obtain ⟨i0, hi, hz0, hz1, hz2⟩ := info_parts Try.infoPr
  have HP : Hid (p.block < w.heap.size) := cell_lt hl.cell
  go_enter Try.func206, Try.ntmps206
  go_wp2
  go_loopw [7, 9] (fun v i wr => ∃ k : Nat, ∃ xs : List Pr, ∃ t : List UInt8, ∃ ao c, k ≤ n ∧ i = .int .i64 k ∧ Hid (xs.length = k) ∧ v = .slice ao xs.length c ∧ Hid (OwnPrs w.heap.size wr ao c xs) ∧ Hid (rdTimes rdPr n l = preT xs (rdTimes rdPr (n - k) t)) ∧ Left p wr t ∧ Hid (Kept (One p.block) w wr)) (fun _ i _ => n - (intOf i).toNat)
  case atStart => exact ⟨0, [], l, none, 0, by omega, rfl, rfl, rfl, World.ownsRow_nil _ _ _ _, (preT_nil _).symm, hl, Kept.refl _ _⟩
  case round =>
    obtain ⟨k, xs, t, ao, c, hk, rfl, HA, rfl, HO, HE, hl', HK⟩ := hrel
    clear hl
    by_cases hkn : k < n
    · cases hr : rdPr t with
      | error e0 =>
        have HR : Hid (rdTimes rdPr n l = .error e0) := by
          show rdTimes rdPr n l = _
          rw [HE.out, show n - k = (n - k - 1) + 1 by omega]
          exact rdTimes_no hr
        go_wp2_with (go_at_call 167; refine (rPr_no hl' hr).mono ?_; rintro e w' ⟨rfl, hk'⟩)
        unfold bodyPost RdPost
        rw [HR.out]
        exact ⟨rfl, rfl, HK.out.trans hk'⟩
      | ok r =>
        obtain ⟨a, u⟩ := r
        have HR : Hid (rdTimes rdPr n l = preT (xs ++ [a]) (rdTimes rdPr (n - (k + 1)) u)) := by
          show rdTimes rdPr n l = _
          rw [HE.out, show n - k = (n - (k + 1)) + 1 by omega]
          exact rdTimes_more hr
        have HLL : Hid (xs.length + 1 ≤ maxLen ∧ (xs.length + 1) * 40 ≤ 140737488355328) := by
          have := HA.out
          constructor
          · unfold maxLen; omega
          · omega
        have N := rPr_ok hl' hr
        clear hr hl'
        go_wp2_with (first | (go_at_call 167; refine N.mono ?_; rintro e w' ⟨rfl, hc', hz', hk'⟩; have HL' : Hid (Left p w' u) := ⟨hc', hz'⟩; have HK' : Hid (Kept (One p.block) w w') := HK.out.trans hk'; have ho : w'.ownsRow w.heap.size 128 3 (.slice ao xs.length c) xs.length (prCells xs) := own_kept HO.out hk' (fun k cs hb hx => by have := HP.out; have : k = p.block := hx; omega); clear hc' hz' hk') | (at_builtin; go_must (refine wpList_append_src _ rfl _ _ 62 62 rfl w.heap.size 128 i0 (.agg #[.string ⟨#[]⟩, .string ⟨#[]⟩, .int .i64 0]) 3 40 Try.underlying62 hi hz0 hz1 hz2 rfl _ _ _ rfl (ho.alloc _) (.slice (some ⟨w'.heap.size, 0, none⟩) 1 1) 1 [.string (bs a.k), .string (bs a.v), .int .i64 a.n] rfl (src_pr _) HLL.out.1 HLL.out.2 (le_alloc HK'.out.size _) ?_); intro ao' c' w1 ho' hg'; have HL1 : Hid (Left p w1 u) := by { have h1 := HL'.out.alloc (.cells #[.string (bs a.k), .string (bs a.v), .int .i64 a.n] 128); have hne : some p.block ≠ (Value.slice ao xs.length c).ownBlock := (fun e => by have := (ho.lt _ e.symm).1; have := HP.out; omega); have hb := hg'.block p.block (cell_lt h1.cell) hne; exact ⟨(World.cell?_of_block hb).trans h1.cell, (World.frozen?_of_block hb).trans h1.free⟩ }; have HK1 : Hid (Kept (One p.block) w w1) := (HK'.out.alloc _).grown hg' (own_row ho); clear hg'))
        go_roundw
        case rel => exact ⟨k + 1, xs ++ [a], u, ao', c', by omega, by go_num, by have := HA.out; show (xs ++ [a]).length = k + 1; simp; omega, by rw [List.length_append]; rfl, OwnPrs.push ho', HR, HL1.out, HK1.out⟩
        case measure => simp [intOf]; omega
    · have HR : Hid (rdTimes rdPr n l = .ok (xs, t)) := by
        show rdTimes rdPr n l = _
        rw [HE.out, show n - k = 0 by omega]
        simp [rdTimes, preT]
      go_wp2
      go_ret
      unfold RdPost
      rw [HR.out]
      exact ⟨⟨_, rfl, ao, c, rfl, HO.out⟩, hl', HK.out⟩

/-- A count, and so many numbers. -/
def rdPrs (most : Nat) (l : List UInt8) : Except Int (List Pr × List UInt8) := rdThen (rdUpTo most l) fun n l => rdTimes rdPr n l

theorem prsV_mono {B B' : Nat} {ns : List Pr} {w : World} {v : Value} (h : PrsV B ns w v) (hb : B' ≤ B) : PrsV B' ns w v := by
  obtain ⟨ao, c, rfl, ho⟩ := h
  exact ⟨ao, c, rfl, own_mono ho hb⟩

set_option maxRecDepth 100000 in
set_option maxHeartbeats 1000000 in
theorem listP_any (p : Addr) (most : Nat) (l : List UInt8) (w : World) (hl : Left p w l) (hm : (most : Int) ≤ 1000000) :
    Calls Try.prog 166 #[.pointer (some p), .int .i64 most, .func (.func 167) #[] #[]] w (RdPost p w (rdPrs most l) (PrsV w.heap.size)) := by
  cases r1 : rdUpTo most l with
  | error c =>
    have HR : Hid (rdPrs most l = .error c) := rdThen_no r1
    go_enter Try.func166, Try.ntmps166
    go_wp2_with fail
    refine (upTo_no hl r1).mono ?_
    rintro e w1 ⟨rfl, k1⟩
    go_wp2
    unfold bodyPost RdPost
    rw [HR.out]
    exact ⟨rfl, rfl, k1⟩
  | ok x1 =>
    obtain ⟨n, l1⟩ := x1
    have hn := (rdUpTo_ok r1).1
    have hn' : (n : Int) ≤ 1000000 := by omega
    have HR : Hid (rdPrs most l = rdTimes rdPr n l1) := rdThen_ok r1
    clear hm
    cases r2 : rdTimes rdPr n l1 with
    | error c =>
      go_enter Try.func166, Try.ntmps166
      go_wp2_with fail
      refine (upTo_ok hl r1).mono ?_
      rintro e w1 ⟨rfl, c1, z1, k1⟩
      go_wp2_with fail
      refine (RdPost.no (timesP_any p n l1 w1 ⟨c1, z1⟩ hn') r2).mono ?_
      rintro e w2 ⟨rfl, k2⟩
      go_wp2
      unfold bodyPost RdPost
      rw [HR.out, r2]
      exact ⟨rfl, rfl, k1.trans k2⟩
    | ok x2 =>
      obtain ⟨ns, l2⟩ := x2
      go_enter Try.func166, Try.ntmps166
      go_wp2_with fail
      refine (upTo_ok hl r1).mono ?_
      rintro e w1 ⟨rfl, c1, z1, k1⟩
      go_wp2_with fail
      refine (RdPost.ok (timesP_any p n l1 w1 ⟨c1, z1⟩ hn') r2).mono ?_
      rintro e w2 ⟨v, rfl, hv, c2, z2, k2⟩
      go_wp2
      go_ret
      unfold RdPost
      rw [HR.out, r2]
      exact ⟨⟨_, rfl, prsV_mono hv k1.size⟩, ⟨c2, z2⟩, k1.trans k2⟩


end Go.Proofs.Ytijklginabipgaa

namespace Go.Proofs.Ytijklginabipgaa
open Go.RowKit

structure Rs where
  kd : Nat
  val : List UInt8
  ver : Nat
  ks : List (List UInt8)
def rdRs (l : List UInt8) : Except Int (Rs × List UInt8) :=
  rdThen (rdNum l) fun kd l => rdThen (rdText 64 l) fun val l => rdThen (rdNum l) fun ver l => rdThen (rdKeys 32 l) fun ks l => .ok (⟨kd, val, ver, ks⟩, l)
def RsV (B : Nat) : Rs → World → Value → Prop := fun x w v => ∃ ao c, v = .agg #[.int .i64 x.kd, .string (bs x.val), .int .i64 x.ver, .slice ao x.ks.length c] ∧ OwnStrs B w ao c x.ks
theorem own_setS {B : Nat} {w : World} {ao : Option Addr} {c : Nat} {ns : List (List UInt8)} (h : OwnStrs B w ao c ns) {a : Addr} (ha : a.block < B) (u : Value) : OwnStrs B (w.setCell a u) ao c ns := ownsRow_setCell_below h ha u

set_option maxRecDepth 100000 in
set_option maxHeartbeats 4000000 in
theorem rResult_any (p : Addr) (l : List UInt8) (w : World) (hl : Left p w l) :
    Calls Try.prog 209 #[.pointer (some p)] w (RdPost p w (rdRs l) (RsV w.heap.size)) := by
  have HB : Hid (p.block < w.heap.size) := cell_lt hl.cell
  have HN : Hid (_) := blk_new w (.cells #[.int .i64 0, .string (bs []), .int .i64 0, .slice none 0 0] 131)
  have HX : Hid (¬ One p.block w.heap.size (.cells #[.int .i64 0, .string (bs []), .int .i64 0, .slice none 0 0] 131 (0, 0))) := fun (e : w.heap.size = p.block) => by have := HB.out; omega
  have hla := hl.alloc (.cells #[.int .i64 0, .string (bs []), .int .i64 0, .slice none 0 0] 131)
  clear hl
  cases r1 : rdNum l with
  | error c =>
    have HR : Hid (rdRs l = .error c) := rdThen_no r1
    go_enter Try.func209, Try.ntmps209
    go_wp2_with fail
    refine (number_no hla r1).mono ?_
    rintro e w1 ⟨rfl, k1⟩
    go_wp2
    unfold bodyPost RdPost
    rw [HR.out]
    exact ⟨rfl, rfl, (((Kept.refl _ _).alloc _).trans k1)⟩
  | ok x1 =>
  obtain ⟨kd, l1⟩ := x1
  cases r2 : rdText 64 l1 with
  | error c =>
    have HR : Hid (rdRs l = .error c) := (rdThen_ok r1).trans (rdThen_no r2)
    go_enter Try.func209, Try.ntmps209
    go_wp2_with fail
    refine (number_ok hla r1).mono ?_
    rintro e w1 ⟨rfl, c1, z1, k1⟩
    go_wp2_with fail
    refine (text_no ⟨c1, z1⟩ r2).mono ?_
    rintro e w2 ⟨rfl, k2⟩
    go_wp2
    unfold bodyPost RdPost
    rw [HR.out]
    exact ⟨rfl, rfl, ((((Kept.refl _ _).alloc _).trans k1).trans k2)⟩
  | ok x2 =>
  obtain ⟨val, l2⟩ := x2
  cases r3 : rdNum l2 with
  | error c =>
    have HR : Hid (rdRs l = .error c) := (rdThen_ok r1).trans ((rdThen_ok r2).trans (rdThen_no r3))
    go_enter Try.func209, Try.ntmps209
    go_wp2_with fail
    refine (number_ok hla r1).mono ?_
    rintro e w1 ⟨rfl, c1, z1, k1⟩
    go_wp2_with fail
    refine (text_ok ⟨c1, z1⟩ r2).mono ?_
    rintro e w2 ⟨rfl, c2, z2, k2⟩
    go_wp2_with fail
    refine (number_no ⟨c2, z2⟩ r3).mono ?_
    rintro e w3 ⟨rfl, k3⟩
    go_wp2
    unfold bodyPost RdPost
    rw [HR.out]
    exact ⟨rfl, rfl, (((((Kept.refl _ _).alloc _).trans k1).trans k2).trans k3)⟩
  | ok x3 =>
  obtain ⟨ver, l3⟩ := x3
  cases r4 : rdKeys 32 l3 with
  | error c =>
    have HR : Hid (rdRs l = .error c) := (rdThen_ok r1).trans ((rdThen_ok r2).trans ((rdThen_ok r3).trans (rdThen_no r4)))
    go_enter Try.func209, Try.ntmps209
    go_wp2_with fail
    refine (number_ok hla r1).mono ?_
    rintro e w1 ⟨rfl, c1, z1, k1⟩
    go_wp2_with fail
    refine (text_ok ⟨c1, z1⟩ r2).mono ?_
    rintro e w2 ⟨rfl, c2, z2, k2⟩
    go_wp2_with fail
    refine (number_ok ⟨c2, z2⟩ r3).mono ?_
    rintro e w3 ⟨rfl, c3, z3, k3⟩
    go_wp2_with fail
    refine (RdPost.no (listS_any p 32 l3 w3 ⟨c3, z3⟩ (by omega)) r4).mono ?_
    rintro e w4 ⟨rfl, k4⟩
    go_wp2
    unfold bodyPost RdPost
    rw [HR.out]
    exact ⟨rfl, rfl, ((((((Kept.refl _ _).alloc _).trans k1).trans k2).trans k3).trans k4)⟩
  | ok x4 =>
  obtain ⟨ks, l4⟩ := x4
  have HR : Hid (rdRs l = .ok (⟨kd, val, ver, ks⟩, l4)) := (rdThen_ok r1).trans ((rdThen_ok r2).trans ((rdThen_ok r3).trans (rdThen_ok r4)))
  go_enter Try.func209, Try.ntmps209
  go_wp2_with fail
  refine (number_ok hla r1).mono ?_
  rintro e w1 ⟨rfl, c1, z1, k1⟩
  go_wp2_with fail
  refine (text_ok ⟨c1, z1⟩ r2).mono ?_
  rintro e w2 ⟨rfl, c2, z2, k2⟩
  go_wp2_with fail
  refine (number_ok ⟨c2, z2⟩ r3).mono ?_
  rintro e w3 ⟨rfl, c3, z3, k3⟩
  go_wp2_with fail
  refine (RdPost.ok (listS_any p 32 l3 w3 ⟨c3, z3⟩ (by omega)) r4).mono ?_
  rintro e w4 ⟨v4, rfl, hv4, c4, z4, k4⟩
  obtain ⟨ao1, cp1, rfl, o1⟩ := hv4
  have HO4 : Hid (OwnStrs (w.heap.size + 1) w4 ao1 cp1 ks) := by { have s1 := k1.size; have s2 := k2.size; have s3 := k3.size; have hb : w.heap.size + 1 ≤ w3.heap.size := (by simp at s1; omega); exact own_mono o1 hb }
  clear o1
  have hbr := k4.block _ _ (k3.block _ _ (k2.block _ _ (k1.block _ _ (HN.out) HX.out) HX.out) HX.out) HX.out
  have g0 := blk_at hbr 0 rfl
  have g1 := blk_at hbr 1 rfl
  have g2 := blk_at hbr 2 rfl
  have g3 := blk_at hbr 3 rfl
  have f0 := blk_free hbr 0
  have f1 := blk_free hbr 1
  have f2 := blk_free hbr 2
  have f3 := blk_free hbr 3
  have hkk : Kept (One p.block) w w4 := ((((((Kept.refl _ _).alloc _).trans k1).trans k2).trans k3).trans k4)
  have hln : Left p w4 l4 := ⟨c4, z4⟩
  go_wp2
  refine bodyPost_ret (v := .agg #[.int .i64 kd, .string (bs val), .int .i64 ver, .slice ao1 ks.length cp1]) (by simp [results, Try.results209, go_sem, g0, g1, g2, g3]) rfl ?_
  unfold RdPost
  rw [HR.out]
  have hne : p.block ≠ w.heap.size := Nat.ne_of_lt HB.out
  exact ⟨⟨_, rfl, ⟨ao1, cp1, rfl, own_mono (own_setS (own_setS (own_setS (own_setS HO4.out (Nat.lt_succ_self _) _) (Nat.lt_succ_self _) _) (Nat.lt_succ_self _) _) (Nat.lt_succ_self _) _) (Nat.le_succ _)⟩⟩, ((((hln.other hne _).other hne _).other hne _).other hne _), ((((hkk.setNew (Nat.le_refl _) _).setNew (Nat.le_refl _) _).setNew (Nat.le_refl _) _).setNew (Nat.le_refl _) _)⟩

end Go.Proofs.Ytijklginabipgaa

namespace Go.Proofs.Ytijklginabipgaa
open Go.RowKit

def rdSs (l : List UInt8) : Except Int (Ss × List UInt8) :=
  rdThen (rdNum l) fun cl l => rdThen (rdNum l) fun ls l => rdThen (rdNum l) fun sn l => rdThen (rdRs l) fun r l => .ok (⟨(cl : Int), (ls : Int), (r.kd : Int), r.val, (r.ver : Int), r.ks, (sn : Int)⟩, l)
def SsV (B : Nat) : Ss → World → Value → Prop := fun x w v => ∃ ao c, v = .agg #[.int .i64 x.cl, .int .i64 x.ls, .int .i64 x.kd, .string (bs x.val), .int .i64 x.ver, .slice ao x.ks.length c, .int .i64 x.sn] ∧ OwnStrs B w ao c x.ks

set_option maxRecDepth 100000 in
set_option maxHeartbeats 4000000 in
theorem rSession_any (p : Addr) (l : List UInt8) (w : World) (hl : Left p w l) :
    Calls Try.prog 169 #[.pointer (some p)] w (RdPost p w (rdSs l) (SsV w.heap.size)) := by
  have HB : Hid (p.block < w.heap.size) := cell_lt hl.cell
  have HN : Hid (_) := blk_new w (.cells #[.int .i64 0, .int .i64 0, .int .i64 0, .string (bs []), .int .i64 0, .slice none 0 0, .int .i64 0] 133)
  have HX : Hid (¬ One p.block w.heap.size (.cells #[.int .i64 0, .int .i64 0, .int .i64 0, .string (bs []), .int .i64 0, .slice none 0 0, .int .i64 0] 133 (0, 0))) := fun (e : w.heap.size = p.block) => by have := HB.out; omega
  have hla := hl.alloc (.cells #[.int .i64 0, .int .i64 0, .int .i64 0, .string (bs []), .int .i64 0, .slice none 0 0, .int .i64 0] 133)
  clear hl
  cases r1 : rdNum l with
  | error c =>
    have HR : Hid (rdSs l = .error c) := rdThen_no r1
    go_enter Try.func169, Try.ntmps169
    go_wp2_with fail
    refine (number_no hla r1).mono ?_
    rintro e w1 ⟨rfl, k1⟩
    go_wp2
    unfold bodyPost RdPost
    rw [HR.out]
    exact ⟨rfl, rfl, (((Kept.refl _ _).alloc _).trans k1)⟩
  | ok x1 =>
  obtain ⟨cl, l1⟩ := x1
  cases r2 : rdNum l1 with
  | error c =>
    have HR : Hid (rdSs l = .error c) := (rdThen_ok r1).trans (rdThen_no r2)
    go_enter Try.func169, Try.ntmps169
    go_wp2_with fail
    refine (number_ok hla r1).mono ?_
    rintro e w1 ⟨rfl, c1, z1, k1⟩
    go_wp2_with fail
    refine (number_no ⟨c1, z1⟩ r2).mono ?_
    rintro e w2 ⟨rfl, k2⟩
    go_wp2
    unfold bodyPost RdPost
    rw [HR.out]
    exact ⟨rfl, rfl, ((((Kept.refl _ _).alloc _).trans k1).trans k2)⟩
  | ok x2 =>
  obtain ⟨ls, l2⟩ := x2
  cases r3 : rdNum l2 with
  | error c =>
    have HR : Hid (rdSs l = .error c) := (rdThen_ok r1).trans ((rdThen_ok r2).trans (rdThen_no r3))
    go_enter Try.func169, Try.ntmps169
    go_wp2_with fail
    refine (number_ok hla r1).mono ?_
    rintro e w1 ⟨rfl, c1, z1, k1⟩
    go_wp2_with fail
    refine (number_ok ⟨c1, z1⟩ r2).mono ?_
    rintro e w2 ⟨rfl, c2, z2, k2⟩
    go_wp2_with fail
    refine (number_no ⟨c2, z2⟩ r3).mono ?_
    rintro e w3 ⟨rfl, k3⟩
    go_wp2
    unfold bodyPost RdPost
    rw [HR.out]
    exact ⟨rfl, rfl, (((((Kept.refl _ _).alloc _).trans k1).trans k2).trans k3)⟩
  | ok x3 =>
  obtain ⟨sn, l3⟩ := x3
  cases r4 : rdRs l3 with
  | error c =>
    have HR : Hid (rdSs l = .error c) := (rdThen_ok r1).trans ((rdThen_ok r2).trans ((rdThen_ok r3).trans (rdThen_no r4)))
    go_enter Try.func169, Try.ntmps169
    go_wp2_with fail
    refine (number_ok hla r1).mono ?_
    rintro e w1 ⟨rfl, c1, z1, k1⟩
    go_wp2_with fail
    refine (number_ok ⟨c1, z1⟩ r2).mono ?_
    rintro e w2 ⟨rfl, c2, z2, k2⟩
    go_wp2_with fail
    refine (number_ok ⟨c2, z2⟩ r3).mono ?_
    rintro e w3 ⟨rfl, c3, z3, k3⟩
    go_wp2_with fail
    refine (RdPost.no (rResult_any p l3 w3 ⟨c3, z3⟩) r4).mono ?_
    rintro e w4 ⟨rfl, k4⟩
    go_wp2
    unfold bodyPost RdPost
    rw [HR.out]
    exact ⟨rfl, rfl, ((((((Kept.refl _ _).alloc _).trans k1).trans k2).trans k3).trans k4)⟩
  | ok x4 =>
  obtain ⟨r, l4⟩ := x4
  have HR : Hid (rdSs l = .ok (⟨(cl : Int), (ls : Int), (r.kd : Int), r.val, (r.ver : Int), r.ks, (sn : Int)⟩, l4)) := (rdThen_ok r1).trans ((rdThen_ok r2).trans ((rdThen_ok r3).trans (rdThen_ok r4)))
  go_enter Try.func169, Try.ntmps169
  go_wp2_with fail
  refine (number_ok hla r1).mono ?_
  rintro e w1 ⟨rfl, c1, z1, k1⟩
  go_wp2_with fail
  refine (number_ok ⟨c1, z1⟩ r2).mono ?_
  rintro e w2 ⟨rfl, c2, z2, k2⟩
  go_wp2_with fail
  refine (number_ok ⟨c2, z2⟩ r3).mono ?_
  rintro e w3 ⟨rfl, c3, z3, k3⟩
  go_wp2_with fail
  refine (RdPost.ok (rResult_any p l3 w3 ⟨c3, z3⟩) r4).mono ?_
  rintro e w4 ⟨v4, rfl, hv4, c4, z4, k4⟩
  obtain ⟨ao1, cp1, rfl, o1⟩ := hv4
  have HO4 : Hid (OwnStrs (w.heap.size + 1) w4 ao1 cp1 r.ks) := by { have s1 := k1.size; have s2 := k2.size; have s3 := k3.size; have hb : w.heap.size + 1 ≤ w3.heap.size := (by simp at s1; omega); exact own_mono o1 hb }
  clear o1
  have hbr := k4.block _ _ (k3.block _ _ (k2.block _ _ (k1.block _ _ (HN.out) HX.out) HX.out) HX.out) HX.out
  have g0 := blk_at hbr 0 rfl
  have g1 := blk_at hbr 1 rfl
  have g2 := blk_at hbr 2 rfl
  have g3 := blk_at hbr 3 rfl
  have g4 := blk_at hbr 4 rfl
  have g5 := blk_at hbr 5 rfl
  have g6 := blk_at hbr 6 rfl
  have f0 := blk_free hbr 0
  have f1 := blk_free hbr 1
  have f2 := blk_free hbr 2
  have f3 := blk_free hbr 3
  have f4 := blk_free hbr 4
  have f5 := blk_free hbr 5
  have f6 := blk_free hbr 6
  have hkk : Kept (One p.block) w w4 := ((((((Kept.refl _ _).alloc _).trans k1).trans k2).trans k3).trans k4)
  have hln : Left p w4 l4 := ⟨c4, z4⟩
  go_wp2
  refine bodyPost_ret (v := .agg #[.int .i64 cl, .int .i64 ls, .int .i64 r.kd, .string (bs r.val), .int .i64 r.ver, .slice ao1 r.ks.length cp1, .int .i64 sn]) (by simp [results, Try.results169, go_sem, g0, g1, g2, g3, g4, g5, g6]) rfl ?_
  unfold RdPost
  rw [HR.out]
  have hne : p.block ≠ w.heap.size := Nat.ne_of_lt HB.out
  exact ⟨⟨_, rfl, ⟨ao1, cp1, rfl, own_mono (own_setS (own_setS (own_setS (own_setS (own_setS (own_setS (own_setS HO4.out (Nat.lt_succ_self _) _) (Nat.lt_succ_self _) _) (Nat.lt_succ_self _) _) (Nat.lt_succ_self _) _) (Nat.lt_succ_self _) _) (Nat.lt_succ_self _) _) (Nat.lt_succ_self _) _) (Nat.le_succ _)⟩⟩, (((((((hln.other hne _).other hne _).other hne _).other hne _).other hne _).other hne _).other hne _), (((((((hkk.setNew (Nat.le_refl _) _).setNew (Nat.le_refl _) _).setNew (Nat.le_refl _) _).setNew (Nat.le_refl _) _).setNew (Nat.le_refl _) _).setNew (Nat.le_refl _) _).setNew (Nat.le_refl _) _)⟩

end Go.Proofs.Ytijklginabipgaa

namespace Go.Proofs.Ytijklginabipgaa
open Go.RowKit

/-- A session and where its keys lie. -/
structure Es where
  s : Ss
  ao : Option Addr
  c : Nat
def esCells (es : List Es) : List Value := es.flatMap fun e => [Value.int .i64 e.s.cl, .int .i64 e.s.ls, .int .i64 e.s.kd, .string (bs e.s.val), .int .i64 e.s.ver, .slice e.ao e.s.ks.length e.c, .int .i64 e.s.sn]
theorem esCells_snoc (es : List Es) (e : Es) : esCells (es ++ [e]) = esCells es ++ [.int .i64 e.s.cl, .int .i64 e.s.ls, .int .i64 e.s.kd, .string (bs e.s.val), .int .i64 e.s.ver, .slice e.ao e.s.ks.length e.c, .int .i64 e.s.sn] := by simp [esCells]
def OwnSss (B : Nat) (w : World) (ao : Option Addr) (c : Nat) (es : List Es) : Prop := w.ownsRow B 133 7 (.slice ao es.length c) es.length (esCells es) ∧ ∀ e ∈ es, OwnStrs B w e.ao e.c e.s.ks
def SssV (B : Nat) : List Ss → World → Value → Prop := fun ss w v => ∃ ao c es, es.map Es.s = ss ∧ v = .slice ao es.length c ∧ OwnSss B w ao c es
theorem own_grown {w w' : World} {B s1 s2 n1 n2 : Nat} {e1 e2 : TypeId} {v1 v2 : Value} {xs1 xs2 : List Value} (h1 : w.ownsRow B e1 s1 v1 n1 xs1) (h2 : w.ownsRow B e2 s2 v2 n2 xs2) (hne : e1 ≠ e2) (hg : w.grownBy w' v2.ownBlock) : w'.ownsRow B e1 s1 v1 n1 xs1 := by
  refine ⟨h1.1, h1.2.imp id ?_⟩
  rintro ⟨g, cap, cur, a1, a2, a3, a4⟩
  refine ⟨g, cap, cur, a1, a2, ?_, a4⟩
  rw [hg.block g (lt_of_block a3) ?_]
  · exact a3
  · intro e
    rcases h2.2 with ⟨rfl, _⟩ | ⟨g2, cap2, cur2, rfl, b2, b3, _⟩
    · simp [Value.ownBlock] at e
    · simp only [Value.ownBlock, Option.some.injEq] at e
      subst e
      rw [a3] at b3
      simp only [Option.some.injEq, Obj.cells.injEq] at b3
      exact hne b3.2.1
theorem Try.infoSs : (Try.prog.info? 133).map (fun i => (i.zero, i.size, i.bytes)) = some (some (.agg #[.int .i64 0, .int .i64 0, .int .i64 0, .string ⟨#[]⟩, .int .i64 0, .slice none 0 0, .int .i64 0]), 7, 80) := by kernel_rfl
theorem src_ss {w : World} (z : Ss) (ao : Option Addr) (c : Nat) : Src Try.prog 7 63 (.slice (some ⟨w.heap.size, 0, none⟩) 1 1) 1 [.int .i64 z.cl, .int .i64 z.ls, .int .i64 z.kd, .string (bs z.val), .int .i64 z.ver, .slice ao z.ks.length c, .int .i64 z.sn] (w.alloc (.cells #[.int .i64 z.cl, .int .i64 z.ls, .int .i64 z.kd, .string (bs z.val), .int .i64 z.ver, .slice ao z.ks.length c, .int .i64 z.sn] 133)) := by
  refine Src.ofSlice _ Try.underlying63 _ 1 1 _ rfl ?_ ?_
  · intro j u hj
    match j, hj with
    | 0, hj | 1, hj | 2, hj | 3, hj | 4, hj | 5, hj | 6, hj =>
      simp at hj
      subst hj
      simp [Addr.add]
  · intro u hu
    simp at hu
    rcases hu with rfl | rfl | rfl | rfl | rfl | rfl | rfl <;> rfl
theorem OwnSss.push {B : Nat} {w' : World} {ao ao2 : Option Addr} {c c2 : Nat} {es : List Es} {a : Ss} (h : w'.ownsRow B 133 7 (.slice ao (es.length + 1) c) (es.length + 1) (esCells es ++ [.int .i64 a.cl, .int .i64 a.ls, .int .i64 a.kd, .string (bs a.val), .int .i64 a.ver, .slice ao2 a.ks.length c2, .int .i64 a.sn])) (h1 : ∀ e ∈ es, OwnStrs B w' e.ao e.c e.s.ks) (h2 : OwnStrs B w' ao2 c2 a.ks) : OwnSss B w' ao c (es ++ [⟨a, ao2, c2⟩]) := by
  refine ⟨?_, ?_⟩
  · rw [esCells_snoc, List.length_append]
    exact h
  · intro e he
    rcases List.mem_append.mp he with he | he
    · exact h1 e he
    · simp at he
      subst he
      exact h2

set_option maxRecDepth 100000 in
set_option maxHeartbeats 1000000 in
theorem timesT_any (p : Addr) (n : Nat) (l : List UInt8) (w : World) (hl : Left p w l) (hn : (n : Int) ≤ 1000000) :
    Calls Try.prog 208 #[.pointer (some p), .int .i64 n, .func (.func 169) #[] #[]] w (RdPost p w (rdTimes rdSs n l) (SssV w.heap.size)) := by
  obtain ⟨i0, hi, hz0, hz1, hz2⟩ := info_parts Try.infoSs
  have HP : Hid (p.block < w.heap.size) := cell_lt hl.cell
  go_enter Try.func208, Try.ntmps208
  go_wp2
  go_loopw [7, 9] (fun v i wr => ∃ k : Nat, ∃ xs : List Es, ∃ t : List UInt8, ∃ ao c, k ≤ n ∧ i = .int .i64 k ∧ Hid (xs.length = k) ∧ v = .slice ao xs.length c ∧ Hid (OwnSss w.heap.size wr ao c xs) ∧ Hid (rdTimes rdSs n l = preT (xs.map Es.s) (rdTimes rdSs (n - k) t)) ∧ Left p wr t ∧ Hid (Kept (One p.block) w wr)) (fun _ i _ => n - (intOf i).toNat)
  case atStart => exact ⟨0, [], l, none, 0, by omega, rfl, rfl, rfl, ⟨World.ownsRow_nil _ _ _ _, fun _ h => by simp at h⟩, (preT_nil _).symm, hl, Kept.refl _ _⟩
  case round =>
    obtain ⟨k, xs, t, ao, c, hk, rfl, HA, rfl, HO, HE, hl', HK⟩ := hrel
    clear hl
    by_cases hkn : k < n
    · cases hr : rdSs t with
      | error e0 =>
        have HR : Hid (rdTimes rdSs n l = .error e0) := by
          show rdTimes rdSs n l = _
          rw [HE.out, show n - k = (n - k - 1) + 1 by omega]
          exact rdTimes_no hr
        go_wp2_with (go_at_call 169; refine (RdPost.no (rSession_any p t wr hl') hr).mono ?_; rintro e w' ⟨rfl, hk'⟩)
        unfold bodyPost RdPost
        rw [HR.out]
        exact ⟨rfl, rfl, HK.out.trans hk'⟩
      | ok r =>
        obtain ⟨a, u⟩ := r
        have HR : Hid (rdTimes rdSs n l = preT (xs.map Es.s ++ [a]) (rdTimes rdSs (n - (k + 1)) u)) := by
          show rdTimes rdSs n l = _
          rw [HE.out, show n - k = (n - (k + 1)) + 1 by omega]
          exact rdTimes_more hr
        have HLL : Hid (xs.length + 1 ≤ maxLen ∧ (xs.length + 1) * 80 ≤ 140737488355328) := by
          have := HA.out
          constructor
          · unfold maxLen; omega
          · omega
        have N := RdPost.ok (rSession_any p t wr hl') hr
        clear hr hl'
        go_wp2_with (first | (go_at_call 169; refine N.mono ?_; rintro e w' ⟨v, rfl, hv, hc', hz', hk'⟩; obtain ⟨ao2, c2, rfl, o2⟩ := hv; have HL' : Hid (Left p w' u) := ⟨hc', hz'⟩; have HK' : Hid (Kept (One p.block) w w') := HK.out.trans hk'; have ho : w'.ownsRow w.heap.size 133 7 (.slice ao xs.length c) xs.length (esCells xs) := own_kept HO.out.1 hk' (fun k cs hb hx => by have := HP.out; have : k = p.block := hx; omega); have hks : Hid ((∀ e ∈ xs, OwnStrs w.heap.size w' e.ao e.c e.s.ks) ∧ OwnStrs w.heap.size w' ao2 c2 a.ks) := ⟨fun e he => own_kept (HO.out.2 e he) hk' (fun k cs hb hx => by have := HP.out; have : k = p.block := hx; omega), own_mono o2 HK.out.size⟩; clear hc' hz' hk' o2) | (at_builtin; go_must (refine wpList_append_src _ rfl _ _ 63 63 rfl w.heap.size 133 i0 (.agg #[.int .i64 0, .int .i64 0, .int .i64 0, .string ⟨#[]⟩, .int .i64 0, .slice none 0 0, .int .i64 0]) 7 80 Try.underlying63 hi hz0 hz1 hz2 rfl _ _ _ rfl (ho.alloc _) (.slice (some ⟨w'.heap.size, 0, none⟩) 1 1) 1 [.int .i64 a.cl, .int .i64 a.ls, .int .i64 a.kd, .string (bs a.val), .int .i64 a.ver, .slice ao2 a.ks.length c2, .int .i64 a.sn] rfl (src_ss a ao2 c2) HLL.out.1 HLL.out.2 (le_alloc HK'.out.size _) ?_); intro ao' c' w1 ho' hg'; have HL1 : Hid (Left p w1 u) := by { have h1 := HL'.out.alloc (.cells #[.int .i64 a.cl, .int .i64 a.ls, .int .i64 a.kd, .string (bs a.val), .int .i64 a.ver, .slice ao2 a.ks.length c2, .int .i64 a.sn] 133); have hne : some p.block ≠ (Value.slice ao xs.length c).ownBlock := (fun e => by have := (ho.lt _ e.symm).1; have := HP.out; omega); have hb := hg'.block p.block (cell_lt h1.cell) hne; exact ⟨(World.cell?_of_block hb).trans h1.cell, (World.frozen?_of_block hb).trans h1.free⟩ }; have HK1 : Hid (Kept (One p.block) w w1) := (HK'.out.alloc _).grown hg' (own_row ho); have hks1 : Hid ((∀ e ∈ xs, OwnStrs w.heap.size w1 e.ao e.c e.s.ks) ∧ OwnStrs w.heap.size w1 ao2 c2 a.ks) := ⟨fun e he => own_grown (World.ownsRow.alloc (hks.out.1 e he) _) (ho.alloc _) (by decide) hg', own_grown (World.ownsRow.alloc hks.out.2 _) (ho.alloc _) (by decide) hg'⟩; clear hg'))
        go_roundw
        case rel => exact ⟨k + 1, xs ++ [(⟨a, ao2, c2⟩ : Es)], u, ao', c', by omega, by go_num, by have := HA.out; show (xs ++ [(⟨a, ao2, c2⟩ : Es)]).length = k + 1; simp; omega, by rw [List.length_append]; rfl, OwnSss.push ho' hks1.out.1 hks1.out.2, by rw [List.map_append]; exact HR, HL1.out, HK1.out⟩
        case measure => simp [intOf]; omega
    · have HR : Hid (rdTimes rdSs n l = .ok (xs.map Es.s, t)) := by
        show rdTimes rdSs n l = _
        rw [HE.out, show n - k = 0 by omega]
        simp [rdTimes, preT]
      go_wp2
      go_ret
      unfold RdPost
      rw [HR.out]
      exact ⟨⟨_, rfl, ao, c, xs, rfl, rfl, HO.out⟩, hl', HK.out⟩

/-- A count, and so many numbers. -/
def rdSss (most : Nat) (l : List UInt8) : Except Int (List Ss × List UInt8) := rdThen (rdUpTo most l) fun n l => rdTimes rdSs n l

theorem sssV_mono {B B' : Nat} {ns : List Ss} {w : World} {v : Value} (h : SssV B ns w v) (hb : B' ≤ B) : SssV B' ns w v := by
  obtain ⟨ao, c, es, h1, h2, h3, h4⟩ := h
  exact ⟨ao, c, es, h1, h2, own_mono h3 hb, fun e he => own_mono (h4 e he) hb⟩

set_option maxRecDepth 100000 in
set_option maxHeartbeats 1000000 in
theorem listT_any (p : Addr) (most : Nat) (l : List UInt8) (w : World) (hl : Left p w l) (hm : (most : Int) ≤ 1000000) :
    Calls Try.prog 168 #[.pointer (some p), .int .i64 most, .func (.func 169) #[] #[]] w (RdPost p w (rdSss most l) (SssV w.heap.size)) := by
  cases r1 : rdUpTo most l with
  | error c =>
    have HR : Hid (rdSss most l = .error c) := rdThen_no r1
    go_enter Try.func168, Try.ntmps168
    go_wp2_with fail
    refine (upTo_no hl r1).mono ?_
    rintro e w1 ⟨rfl, k1⟩
    go_wp2
    unfold bodyPost RdPost
    rw [HR.out]
    exact ⟨rfl, rfl, k1⟩
  | ok x1 =>
    obtain ⟨n, l1⟩ := x1
    have hn := (rdUpTo_ok r1).1
    have hn' : (n : Int) ≤ 1000000 := by omega
    have HR : Hid (rdSss most l = rdTimes rdSs n l1) := rdThen_ok r1
    clear hm
    cases r2 : rdTimes rdSs n l1 with
    | error c =>
      go_enter Try.func168, Try.ntmps168
      go_wp2_with fail
      refine (upTo_ok hl r1).mono ?_
      rintro e w1 ⟨rfl, c1, z1, k1⟩
      go_wp2_with fail
      refine (RdPost.no (timesT_any p n l1 w1 ⟨c1, z1⟩ hn') r2).mono ?_
      rintro e w2 ⟨rfl, k2⟩
      go_wp2
      unfold bodyPost RdPost
      rw [HR.out, r2]
      exact ⟨rfl, rfl, k1.trans k2⟩
    | ok x2 =>
      obtain ⟨ns, l2⟩ := x2
      go_enter Try.func168, Try.ntmps168
      go_wp2_with fail
      refine (upTo_ok hl r1).mono ?_
      rintro e w1 ⟨rfl, c1, z1, k1⟩
      go_wp2_with fail
      refine (RdPost.ok (timesT_any p n l1 w1 ⟨c1, z1⟩ hn') r2).mono ?_
      rintro e w2 ⟨v, rfl, hv, c2, z2, k2⟩
      go_wp2
      go_ret
      unfold RdPost
      rw [HR.out, r2]
      exact ⟨⟨_, rfl, sssV_mono hv k1.size⟩, ⟨c2, z2⟩, k1.trans k2⟩


end Go.Proofs.Ytijklginabipgaa

namespace Go.Proofs.Ytijklginabipgaa
open Go.RowKit

theorem rdTimes_all {α : Type} {rd : List UInt8 → Except Int (α × List UInt8)} {P : α → Prop} (h : ∀ l a t, rd l = .ok (a, t) → P a) : ∀ {n : Nat} {l t : List UInt8} {xs : List α}, rdTimes rd n l = .ok (xs, t) → ∀ x ∈ xs, P x
  | 0, l, t, xs, e, x, hx => by
    simp only [rdTimes, Except.ok.injEq, Prod.mk.injEq] at e
    rw [← e.1] at hx
    simp at hx
  | n + 1, l, t, xs, e, x, hx => by
    unfold rdTimes at e
    split at e
    · cases e
    · rename_i a u hr1
      split at e
      · cases e
      · rename_i hr
        simp only [Except.ok.injEq, Prod.mk.injEq] at e
        rw [← e.1] at hx
        rcases List.mem_cons.mp hx with rfl | hx
        · exact h _ _ _ hr1
        · exact rdTimes_all h hr x hx
theorem rdThen_inv {α β : Type} {r : Except Int (α × List UInt8)} {f : α → List UInt8 → Except Int (β × List UInt8)} {x : β × List UInt8} (h : rdThen r f = .ok x) : ∃ a t, r = .ok (a, t) ∧ f a t = .ok x := by
  cases r with
  | error c => cases h
  | ok y => exact ⟨y.1, y.2, rfl, h⟩
structure PSmall (p : Pr) : Prop where
  k : p.k.length ≤ 16
  v : p.v.length ≤ 64
structure SSmall (s : Ss) : Prop where
  val : s.val.length ≤ 64
  kl : s.ks.length ≤ 32
  ks : ∀ x ∈ s.ks, x.length ≤ 16
theorem rdPr_small {l t : List UInt8} {p : Pr} (h : rdPr l = .ok (p, t)) : PSmall p := by
  obtain ⟨k, l1, h1, h⟩ := rdThen_inv h
  obtain ⟨v, l2, h2, h⟩ := rdThen_inv h
  obtain ⟨n, l3, h3, h⟩ := rdThen_inv h
  simp only [Except.ok.injEq, Prod.mk.injEq] at h
  rw [← h.1]
  exact ⟨rdText_le h1, rdText_le h2⟩
theorem rdKeys_small {l t : List UInt8} {ks : List (List UInt8)} (h : rdKeys 32 l = .ok (ks, t)) : ks.length ≤ 32 ∧ ∀ x ∈ ks, x.length ≤ 16 := by
  obtain ⟨n, l1, h1, h⟩ := rdThen_inv h
  refine ⟨?_, rdTimes_all (fun l a t h => rdText_le h) h⟩
  rw [rdTimes_len h]
  exact (rdUpTo_ok h1).1
theorem rdSs_small {l t : List UInt8} {s : Ss} (h : rdSs l = .ok (s, t)) : SSmall s := by
  obtain ⟨cl, l1, h1, h⟩ := rdThen_inv h
  obtain ⟨ls, l2, h2, h⟩ := rdThen_inv h
  obtain ⟨sn, l3, h3, h⟩ := rdThen_inv h
  obtain ⟨r, l4, h4, h⟩ := rdThen_inv h
  simp only [Except.ok.injEq, Prod.mk.injEq] at h
  obtain ⟨kd, m1, g1, h4⟩ := rdThen_inv h4
  obtain ⟨val, m2, g2, h4⟩ := rdThen_inv h4
  obtain ⟨ver, m3, g3, h4⟩ := rdThen_inv h4
  obtain ⟨ks, m4, g4, h4⟩ := rdThen_inv h4
  simp only [Except.ok.injEq, Prod.mk.injEq] at h4
  rw [← h.1, ← h4.1]
  exact ⟨rdText_le g2, (rdKeys_small g4).1, (rdKeys_small g4).2⟩
theorem rdPrs_small {l t : List UInt8} {ps : List Pr} (h : rdPrs 32 l = .ok (ps, t)) : ps.length ≤ 32 ∧ ∀ x ∈ ps, PSmall x := by
  obtain ⟨n, l1, h1, h⟩ := rdThen_inv h
  refine ⟨?_, rdTimes_all (fun l a t h => rdPr_small h) h⟩
  rw [rdTimes_len h]
  exact (rdUpTo_ok h1).1
theorem rdSss_small {l t : List UInt8} {ss : List Ss} (h : rdSss 8 l = .ok (ss, t)) : ss.length ≤ 8 ∧ ∀ x ∈ ss, SSmall x := by
  obtain ⟨n, l1, h1, h⟩ := rdThen_inv h
  refine ⟨?_, rdTimes_all (fun l a t h => rdSs_small h) h⟩
  rw [rdTimes_len h]
  exact (rdUpTo_ok h1).1

theorem addr_add (g j : Nat) : (⟨g, 0, none⟩ : Addr).add j = ⟨g, j, none⟩ := by unfold Addr.add; split <;> simp_all
theorem own_cell {B n s c : Nat} {e : TypeId} {w : World} {ao : Option Addr} {xs : List Value} (h : w.ownsRow B e s (.slice ao n c) n xs) (hn : 0 < n) : ∃ g, ao = some ⟨g, 0, none⟩ ∧ g < w.heap.size ∧ ∀ i v, xs[i]? = some v → w.cell? ⟨g, i, none⟩ = some v := by
  rcases h.2 with ⟨_, h0⟩ | ⟨g, cap, cur, hv, hb, hh, h1, h2, h3, h4⟩
  · omega
  · simp only [Value.slice.injEq] at hv
    refine ⟨g, hv.1, lt_of_block hh, fun i v hi => ?_⟩
    rw [blk_cell hh i]
    rw [← h4, List.getElem?_take] at hi
    split at hi
    · simpa using hi
    · cases hi
theorem prCells_at : ∀ (ps : List Pr) (j : Nat) (hj : j < ps.length), (prCells ps)[j * 3]? = some (.string (bs ps[j].k)) ∧ (prCells ps)[j * 3 + 1]? = some (.string (bs ps[j].v)) ∧ (prCells ps)[j * 3 + 2]? = some (.int .i64 ps[j].n)
  | [], j, hj => by simp at hj
  | p :: t, 0, hj => by simp [prCells]
  | p :: t, j + 1, hj => by
    have h := prCells_at t j (by simpa using hj)
    have e : prCells (p :: t) = .string (bs p.k) :: .string (bs p.v) :: .int .i64 p.n :: prCells t := by simp [prCells]
    rw [e, show (j + 1) * 3 = j * 3 + 1 + 1 + 1 by omega, show j * 3 + 1 + 1 + 1 + 1 = (j * 3 + 1) + 1 + 1 + 1 by omega, show j * 3 + 1 + 1 + 1 + 2 = (j * 3 + 2) + 1 + 1 + 1 by omega]
    simpa using h
theorem prs_row {B c : Nat} {w : World} {ao : Option Addr} {ps : List Pr} (h : OwnPrs B w ao c ps) (hs : ∀ p ∈ ps, PSmall p) : PairRow w.heap.size w ao ps := by
  intro j hj
  obtain ⟨g, rfl, hg, hc⟩ := own_cell h (by omega)
  obtain ⟨h1, h2, h3⟩ := prCells_at ps j hj
  have hp := hs ps[j] (List.getElem_mem hj)
  refine ⟨⟨g, 0, none⟩, rfl, hg, ?_, ?_, ?_, by have := hp.k; unfold maxLen; omega, by have := hp.v; unfold maxLen; omega⟩
  · rw [addr_add]; exact hc _ _ h1
  · rw [addr_add]; exact hc _ _ h2
  · rw [addr_add]; exact hc _ _ h3
theorem strCells_at (ks : List (List UInt8)) (j : Nat) (hj : j < ks.length) : (strCells ks)[j]? = some (.string (bs ks[j])) := by simp [strCells, hj]
theorem strs_row {B c : Nat} {w : World} {ao : Option Addr} {ks : List (List UInt8)} (h : OwnStrs B w ao c ks) (hs : ∀ x ∈ ks, x.length ≤ 16) : StrRow w.heap.size w ao ks := by
  intro j hj
  obtain ⟨g, rfl, hg, hc⟩ := own_cell h (by omega)
  have hp := hs ks[j] (List.getElem_mem hj)
  refine ⟨⟨g, 0, none⟩, rfl, hg, ?_, by unfold maxLen; omega⟩
  rw [addr_add]; exact hc _ _ (strCells_at ks j hj)
theorem esCells_at : ∀ (es : List Es) (j : Nat) (hj : j < es.length), (esCells es)[j * 7]? = some (.int .i64 es[j].s.cl) ∧ (esCells es)[j * 7 + 1]? = some (.int .i64 es[j].s.ls) ∧ (esCells es)[j * 7 + 2]? = some (.int .i64 es[j].s.kd) ∧ (esCells es)[j * 7 + 3]? = some (.string (bs es[j].s.val)) ∧ (esCells es)[j * 7 + 4]? = some (.int .i64 es[j].s.ver) ∧ (esCells es)[j * 7 + 5]? = some (.slice es[j].ao es[j].s.ks.length es[j].c) ∧ (esCells es)[j * 7 + 6]? = some (.int .i64 es[j].s.sn)
  | [], j, hj => by simp at hj
  | p :: t, 0, hj => by simp [esCells]
  | p :: t, j + 1, hj => by
    have h := esCells_at t j (by simpa using hj)
    have e : esCells (p :: t) = .int .i64 p.s.cl :: .int .i64 p.s.ls :: .int .i64 p.s.kd :: .string (bs p.s.val) :: .int .i64 p.s.ver :: .slice p.ao p.s.ks.length p.c :: .int .i64 p.s.sn :: esCells t := by simp [esCells]
    have hx : ∀ i, (esCells (p :: t))[(j + 1) * 7 + i]? = (esCells t)[j * 7 + i]? := fun i => by
      rw [e, show (j + 1) * 7 + i = (j * 7 + i) + 1 + 1 + 1 + 1 + 1 + 1 + 1 by omega]
      simp only [List.getElem?_cons_succ]
    have hx0 := hx 0
    simp only [Nat.add_zero] at hx0
    rw [hx0, hx 1, hx 2, hx 3, hx 4, hx 5, hx 6]
    simpa using h
theorem sss_row {B c : Nat} {w : World} {ao : Option Addr} {es : List Es} (h : OwnSss B w ao c es) (hs : ∀ s ∈ es.map Es.s, SSmall s) : SessRow w.heap.size w ao (es.map Es.s) := by
  intro j hj
  have hj' : j < es.length := by simpa using hj
  obtain ⟨g, rfl, hg, hc⟩ := own_cell h.1 (by omega)
  obtain ⟨h0, h1, h2, h3, h4, h5, h6⟩ := esCells_at es j hj'
  have hp := hs es[j].s (List.mem_map_of_mem (List.getElem_mem hj'))
  have hk := h.2 es[j] (List.getElem_mem hj')
  simp only [List.getElem_map]
  refine ⟨⟨g, 0, none⟩, es[j].ao, es[j].c, rfl, hg, ?_, ?_, ?_, ?_, ?_, ?_, ?_, strs_row hk hp.ks, by have := hp.kl; omega, by have := hp.val; unfold maxLen; omega⟩
  · rw [addr_add]; exact hc _ _ h0
  · rw [addr_add]; exact hc _ _ h1
  · rw [addr_add]; exact hc _ _ h2
  · rw [addr_add]; exact hc _ _ h3
  · rw [addr_add]; exact hc _ _ h4
  · rw [addr_add]; exact hc _ _ h5
  · rw [addr_add]; exact hc _ _ h6

end Go.Proofs.Ytijklginabipgaa

namespace Go.Proofs.Ytijklginabipgaa
open Go.RowKit

/-- A table, plainly. -/
structure Tb where
  tm : Int
  ps : List Pr
  ss : List Ss
def Tb.ok (t : Tb) : Bool := tabOk t.tm t.ps t.ss
def rdTabEnd (x : Tb) (l : List UInt8) : Except Int (Tb × List UInt8) := if x.ok then .ok (x, l) else .error 6
def rdTab (l : List UInt8) : Except Int (Tb × List UInt8) := rdThen (rdNum l) fun tm l => rdThen (rdPrs 32 l) fun ps l => rdThen (rdSss 8 l) fun ss l => rdTabEnd ⟨(tm : Int), ps, ss⟩ l
/-- A table whose rows are its own, behind block B. -/
def TbV (B : Nat) : Tb → World → Value → Prop := fun x w v => ∃ a1 c1 a2 c2 es, es.map Es.s = x.ss ∧ v = .agg #[.slice a1 x.ps.length c1, .slice a2 es.length c2, .int .i64 x.tm] ∧ OwnPrs B w a1 c1 x.ps ∧ OwnSss B w a2 c2 es
theorem OwnSss.alloc {B c : Nat} {w : World} {ao : Option Addr} {es : List Es} (h : OwnSss B w ao c es) (o : Obj) : OwnSss B (w.alloc o) ao c es := ⟨World.ownsRow.alloc h.1 o, fun e he => World.ownsRow.alloc (h.2 e he) o⟩
theorem OwnSss.mono {B B' c : Nat} {w : World} {ao : Option Addr} {es : List Es} (h : OwnSss B w ao c es) (hb : B' ≤ B) : OwnSss B' w ao c es := ⟨own_mono h.1 hb, fun e he => own_mono (h.2 e he) hb⟩
theorem OwnSss.setB {B c : Nat} {w : World} {ao : Option Addr} {es : List Es} (h : OwnSss B w ao c es) {a : Addr} (ha : a.block < B) (u : Value) : OwnSss B (w.setCell a u) ao c es := ⟨ownsRow_setCell_below h.1 ha u, fun e he => ownsRow_setCell_below (h.2 e he) ha u⟩
theorem OwnSss.kept {X : Nat → Obj → Prop} {B c : Nat} {w w' : World} {ao : Option Addr} {es : List Es} (h : OwnSss B w ao c es) (hk : Kept X w w') (hX : ∀ k o, B ≤ k → ¬ X k o) : OwnSss B w' ao c es := ⟨own_kept h.1 hk (fun k _ hb => hX k _ hb), fun e he => own_kept (h.2 e he) hk (fun k _ hb => hX k _ hb)⟩
theorem tabN_any (c1 c2 : Nat) (tm : Int) (a1 a2 : Option Addr) (ps : List Pr) (es : List Es) (ss : List Ss) (he : es.map Es.s = ss) (w : World) (h1 : PairRow w.heap.size w a1 ps) (h2 : SessRow w.heap.size w a2 (es.map Es.s)) (l1 : ps.length ≤ 32) (l2 : ss.length ≤ 8) :
    Calls Try.prog 108 #[.agg #[.slice a1 ps.length c1, .slice a2 es.length c2, .int .i64 tm]] w fun e w' => e = .returned (.bool (Tb.ok ⟨tm, ps, ss⟩)) ∧ Kept Nil w w' := by
  subst he
  have H := isTable_any w.heap.size c1 c2 tm a1 a2 ps (es.map Es.s) w h1 h2 (by omega) (by omega)
  rw [List.length_map] at H
  exact H

set_option maxRecDepth 100000 in
set_option maxHeartbeats 4000000 in
theorem rTable_any (p : Addr) (l : List UInt8) (w : World) (hl : Left p w l) :
    Calls Try.prog 111 #[.pointer (some p)] w (RdPost p w (rdTab l) (TbV w.heap.size)) := by
  have HB : Hid (p.block < w.heap.size) := cell_lt hl.cell
  have HN : Hid (_) := blk_new w (.cells #[.slice none 0 0, .slice none 0 0, .int .i64 0] 65)
  have HX : Hid (¬ One p.block w.heap.size (.cells #[.slice none 0 0, .slice none 0 0, .int .i64 0] 65 (0, 0))) := fun (e : w.heap.size = p.block) => by have := HB.out; omega
  have hla := hl.alloc (.cells #[.slice none 0 0, .slice none 0 0, .int .i64 0] 65)
  clear hl
  cases r1 : rdNum l with
  | error c =>
    have HR : Hid (rdTab l = .error c) := rdThen_no r1
    go_enter Try.func111, Try.ntmps111
    go_wp2_with fail
    refine (number_no hla r1).mono ?_
    rintro e w1 ⟨rfl, k1⟩
    go_wp2
    unfold bodyPost RdPost
    rw [HR.out]
    exact ⟨rfl, rfl, (((Kept.refl _ _).alloc _).trans k1)⟩
  | ok x1 =>
  obtain ⟨tm, l1⟩ := x1
  cases r2 : rdPrs 32 l1 with
  | error c =>
    have HR : Hid (rdTab l = .error c) := (rdThen_ok r1).trans (rdThen_no r2)
    go_enter Try.func111, Try.ntmps111
    go_wp2_with fail
    refine (number_ok hla r1).mono ?_
    rintro e w1 ⟨rfl, c1, z1, k1⟩
    go_wp2_with fail
    refine (RdPost.no (listP_any p 32 l1 w1 ⟨c1, z1⟩ (by omega)) r2).mono ?_
    rintro e w2 ⟨rfl, k2⟩
    go_wp2
    unfold bodyPost RdPost
    rw [HR.out]
    exact ⟨rfl, rfl, ((((Kept.refl _ _).alloc _).trans k1).trans k2)⟩
  | ok x2 =>
  obtain ⟨ps, l2⟩ := x2
  cases r3 : rdSss 8 l2 with
  | error c =>
    have HR : Hid (rdTab l = .error c) := (rdThen_ok r1).trans ((rdThen_ok r2).trans (rdThen_no r3))
    go_enter Try.func111, Try.ntmps111
    go_wp2_with fail
    refine (number_ok hla r1).mono ?_
    rintro e w1 ⟨rfl, c1, z1, k1⟩
    go_wp2_with fail
    refine (RdPost.ok (listP_any p 32 l1 w1 ⟨c1, z1⟩ (by omega)) r2).mono ?_
    rintro e w2 ⟨v2, rfl, hv2, c2, z2, k2⟩
    obtain ⟨ao1, cp1, rfl, ho1⟩ := hv2
    have HO1 : Hid (OwnPrs (w.heap.size + 1) w2 ao1 cp1 ps) := own_mono ho1 (by have := k1.size; simp at *; omega)
    clear ho1
    go_wp2_with fail
    refine (RdPost.no (listT_any p 8 l2 w2 ⟨c2, z2⟩ (by omega)) r3).mono ?_
    rintro e w3 ⟨rfl, k3⟩
    go_wp2
    unfold bodyPost RdPost
    rw [HR.out]
    exact ⟨rfl, rfl, (((((Kept.refl _ _).alloc _).trans k1).trans k2).trans k3)⟩
  | ok x3 =>
  obtain ⟨ss, l3⟩ := x3
  have HI := fun w a1 a2 c1 c2 es he hr1 hr2 => tabN_any c1 c2 (tm : Int) a1 a2 ps es ss he w hr1 hr2 (rdPrs_small r2).1 (rdSss_small r3).1
  cases hok : Tb.ok ⟨(tm : Int), ps, ss⟩ with
  | false =>
    rw [hok] at HI
    have HR : Hid (rdTab l = .error 6) := (rdThen_ok r1).trans ((rdThen_ok r2).trans ((rdThen_ok r3).trans (if_neg (by rw [hok]; decide))))
    clear hok
    go_enter Try.func111, Try.ntmps111
    go_wp2_with fail
    refine (number_ok hla r1).mono ?_
    rintro e w1 ⟨rfl, c1, z1, k1⟩
    go_wp2_with fail
    refine (RdPost.ok (listP_any p 32 l1 w1 ⟨c1, z1⟩ (by omega)) r2).mono ?_
    rintro e w2 ⟨v2, rfl, hv2, c2, z2, k2⟩
    obtain ⟨ao1, cp1, rfl, ho1⟩ := hv2
    have HO1 : Hid (OwnPrs (w.heap.size + 1) w2 ao1 cp1 ps) := own_mono ho1 (by have := k1.size; simp at *; omega)
    clear ho1
    go_wp2_with fail
    refine (RdPost.ok (listT_any p 8 l2 w2 ⟨c2, z2⟩ (by omega)) r3).mono ?_
    rintro e w3 ⟨v3, rfl, hv3, c3, z3, k3⟩
    obtain ⟨ao2, cp2, es, rfl, rfl, ho2⟩ := hv3
    have HO2 : Hid (OwnSss (w.heap.size + 1) w3 ao2 cp2 es) := OwnSss.mono ho2 (by have s1 := k1.size; have s2 := k2.size; simp at s1; omega)
    clear ho2
    have P1 : Hid (OwnPrs (w.heap.size + 1) w3 ao1 cp1 ps) := own_kept HO1.out k3 (fun k cs hb hx => by have := HB.out; have : k = p.block := hx; omega)
    have hkk : Kept (One p.block) w w3 := (((((Kept.refl _ _).alloc _).trans k1).trans k2).trans k3)
    go_wp2_with fail
    refine (HI _ _ _ _ _ _ rfl (prs_row (World.ownsRow.alloc P1.out _) (rdPrs_small r2).2) (sss_row (OwnSss.alloc HO2.out _) (rdSss_small r3).2)).mono ?_
    rintro e wi ⟨rfl, ki⟩
    go_wp2_with (go_at_call 145; go_must (refine (must_no _ _).mono ?_); rintro e w99 ⟨rfl, rfl⟩)
    unfold bodyPost RdPost
    rw [HR.out]
    exact ⟨rfl, rfl, (hkk.alloc _).trans (ki.mono (fun _ _ x => x.elim))⟩
  | true =>
    rw [hok] at HI
    have HR : Hid (rdTab l = .ok (⟨(tm : Int), ps, ss⟩, l3)) := (rdThen_ok r1).trans ((rdThen_ok r2).trans ((rdThen_ok r3).trans (if_pos hok)))
    clear hok
    go_enter Try.func111, Try.ntmps111
    go_wp2_with fail
    refine (number_ok hla r1).mono ?_
    rintro e w1 ⟨rfl, c1, z1, k1⟩
    go_wp2_with fail
    refine (RdPost.ok (listP_any p 32 l1 w1 ⟨c1, z1⟩ (by omega)) r2).mono ?_
    rintro e w2 ⟨v2, rfl, hv2, c2, z2, k2⟩
    obtain ⟨ao1, cp1, rfl, ho1⟩ := hv2
    have HO1 : Hid (OwnPrs (w.heap.size + 1) w2 ao1 cp1 ps) := own_mono ho1 (by have := k1.size; simp at *; omega)
    clear ho1
    go_wp2_with fail
    refine (RdPost.ok (listT_any p 8 l2 w2 ⟨c2, z2⟩ (by omega)) r3).mono ?_
    rintro e w3 ⟨v3, rfl, hv3, c3, z3, k3⟩
    obtain ⟨ao2, cp2, es, rfl, rfl, ho2⟩ := hv3
    have HO2 : Hid (OwnSss (w.heap.size + 1) w3 ao2 cp2 es) := OwnSss.mono ho2 (by have s1 := k1.size; have s2 := k2.size; simp at s1; omega)
    clear ho2
    have P1 : Hid (OwnPrs (w.heap.size + 1) w3 ao1 cp1 ps) := own_kept HO1.out k3 (fun k cs hb hx => by have := HB.out; have : k = p.block := hx; omega)
    have HNn : Hid (_) := k3.block _ _ (k2.block _ _ (k1.block _ _ (HN.out) HX.out) HX.out) HX.out
    have hkk : Kept (One p.block) w w3 := (((((Kept.refl _ _).alloc _).trans k1).trans k2).trans k3)
    have hln : Left p w3 l3 := ⟨c3, z3⟩
    go_wp2_with fail
    refine (HI _ _ _ _ _ _ rfl (prs_row (World.ownsRow.alloc P1.out _) (rdPrs_small r2).2) (sss_row (OwnSss.alloc HO2.out _) (rdSss_small r3).2)).mono ?_
    rintro e wi ⟨rfl, ki⟩
    have hq := ki.block _ _ (blk_new w3 _) (fun x => x.elim)
    have hbr := ki.block _ _ (blk_past HNn.out _) (fun x => x.elim)
    have q0 := blk_at hq 0 rfl
    have q1 := blk_at hq 1 rfl
    have q2 := blk_at hq 2 rfl
    have g0 := blk_at hbr 0 rfl
    have g1 := blk_at hbr 1 rfl
    have g2 := blk_at hbr 2 rfl
    have f0 := blk_free hbr 0
    have f1 := blk_free hbr 1
    have f2 := blk_free hbr 2
    go_wp2_with (go_at_call 145; go_must (refine (must_ok _ _).mono ?_); rintro e w99 ⟨rfl, rfl⟩)
    go_wp2
    refine bodyPost_ret (v := .agg #[.slice ao1 ps.length cp1, .slice ao2 es.length cp2, .int .i64 tm]) (by simp [results, Try.results111, go_sem, g0, g1, g2]) rfl ?_
    unfold RdPost
    rw [HR.out]
    have hl9 : Left p w99 l3 := (hln.alloc _).kept ki
    have hk9 : Kept (One p.block) w w99 := (hkk.alloc _).trans (ki.mono (fun _ _ x => x.elim))
    have hne : p.block ≠ w.heap.size := Nat.ne_of_lt HB.out
    have Q1 : OwnPrs (w.heap.size + 1) w99 ao1 cp1 ps := own_kept (World.ownsRow.alloc P1.out _) ki (fun _ _ _ x => x.elim)
    have Q2 : OwnSss (w.heap.size + 1) w99 ao2 cp2 es := OwnSss.kept (OwnSss.alloc HO2.out _) ki (fun _ _ _ x => x.elim)
    exact ⟨⟨_, rfl, ⟨ao1, cp1, ao2, cp2, es, rfl, rfl, own_mono (ownsRow_setCell_below (ownsRow_setCell_below (ownsRow_setCell_below Q1 (Nat.lt_succ_self _) _) (Nat.lt_succ_self _) _) (Nat.lt_succ_self _) _) (Nat.le_succ _), OwnSss.mono (OwnSss.setB (OwnSss.setB (OwnSss.setB Q2 (Nat.lt_succ_self _) _) (Nat.lt_succ_self _) _) (Nat.lt_succ_self _) _) (Nat.le_succ _)⟩⟩, (((hl9.other hne _).other hne _).other hne _), (((hk9.setNew (Nat.le_refl _) _).setNew (Nat.le_refl _) _).setNew (Nat.le_refl _) _)⟩

end Go.Proofs.Ytijklginabipgaa

namespace Go.Proofs.Ytijklginabipgaa
open Go.RowKit

theorem OwnPrs.through {w w1 w2 : World} {o1 o2 o3 : Obj} {ao : Option Addr} {c : Nat} {ns : List Pr} (h : OwnPrs (((w.alloc o1).alloc o2).alloc o3).heap.size w1 ao c ns)
    (hk : Kept (fun k _ => k = w.heap.size ∨ k = w.heap.size + 1) w1 w2) : OwnPrs w.heap.size w2 ao c ns := by
  have hb : (((w.alloc o1).alloc o2).alloc o3).heap.size = w.heap.size + 3 := by simp
  rw [hb] at h
  exact own_mono (own_kept h hk (fun k cs hb hx => by omega)) (by omega)
theorem OwnSss.through {w w1 w2 : World} {o1 o2 o3 : Obj} {ao : Option Addr} {c : Nat} {es : List Es} (h : OwnSss (((w.alloc o1).alloc o2).alloc o3).heap.size w1 ao c es)
    (hk : Kept (fun k _ => k = w.heap.size ∨ k = w.heap.size + 1) w1 w2) : OwnSss w.heap.size w2 ao c es := by
  have hb : (((w.alloc o1).alloc o2).alloc o3).heap.size = w.heap.size + 3 := by simp
  rw [hb] at h
  exact OwnSss.mono (OwnSss.kept h hk (fun k o hb hx => by omega)) (by omega)

end Go.Proofs.Ytijklginabipgaa
