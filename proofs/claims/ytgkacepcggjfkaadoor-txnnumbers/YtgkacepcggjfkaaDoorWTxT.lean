/-
  Transactions: the document's NumberOf; the law TxnNumbers.
-/
import Derived.Test.YtgkacepcggjfkaaDoorWTxS
import Derived.Test.YtgkacepcggjfkaaDoorWKvW
namespace Go.Proofs.YtgkacepcggjfkaaDoor
open Go.RowKit

theorem get_v (ps : List Pr) (key : List UInt8) : (apR 2 key [] 0 ps).v = tells ps key := by
  unfold tells saidR
  split
  · rfl
  · rename_i h
    unfold apR at h ⊢
    by_cases hc : (pairsOk ps && isCmd 2 key [] 0) = true
    · rw [if_pos hc] at h ⊢
      unfold doR tellRr at h ⊢
      simp only [show ¬ (2 : Int) = 1 by decide, if_false, if_true] at h ⊢
      by_cases hz : spotN key ps = 0
      · simp [hz]
      · simp [hz] at h
    · rw [if_neg hc]
set_option maxRecDepth 100000 in
set_option maxHeartbeats 4000000 in
theorem refNumberOf_any (B c : Nat) (ao : Option Addr) (ps : List Pr) (key : List UInt8) (w : World) (h : PairRow B w ao ps) (hl : (ps.length : Int) ≤ 3518437208780) (hk : key.length ≤ 140737488355328) :
    Calls Tryd.prog 5 #[.slice ao ps.length c, .string (bs key)] w fun e w' => e = .returned (.int .i64 (numOf ps key)) ∧ Kept Nil w w' := by
  obtain ⟨z, HZ⟩ : ∃ z, Hid (z = numOf ps key) := ⟨_, rfl⟩
  rw [← HZ.out]
  have RA : ∀ (k : List UInt8) (X : World), Kept Nil w X → k.length ≤ maxLen → Calls Tryd.prog 13 #[.slice ao ps.length c, .agg #[.int .i64 2, .string (bs k), .string ⟨#[]⟩, .int .i64 0]] X (RefApPost X ao c ps (apP 2 k [] 0 ps) (apR 2 k [] 0 ps)) := fun k X kX hkl => refApply_any B c ao ps k [] 2 0 X (h.nil kX) hl hkl (Nat.zero_le _)
  have he : (⟨#[107]⟩ : ByteArray) ++ bs key = bs (kKey key) := bs_append [107] key
  have hz : (bs key).size = key.length := bs_size key
  have HK1 : Hid ((kKey key).length ≤ maxLen) := by show _ ≤ _; unfold kKey maxLen; simp; omega
  clear h
  obtain ⟨r, HR⟩ : ∃ r, Hid (r = apR 2 (kKey key) [] 0 ps) := ⟨_, rfl⟩
  have R1 := RA (kKey key) w (Kept.refl _ _) HK1.out
  rw [← HR.out] at R1
  go_enter Tryd.func5, Tryd.ntmps5
  go_wp2_with fail
  go_fit R1
  rintro _ w1 ⟨a1, c1, ko, kc, rfl, _, _, k1⟩
  unfold rrV
  obtain ⟨N, HNe⟩ : ∃ N, Hid (N = w1.heap.size) := ⟨_, rfl⟩
  obtain ⟨W, hW⟩ : ∃ W, W = w1.alloc (.cells #[.int .i64 r.kd, .string (bs r.v), .int .i64 r.n, .slice ko r.ks.length kc] 34) := ⟨_, rfl⟩
  have HNw : Hid (w.heap.size ≤ N) := by show _ ≤ _; rw [HNe.out]; exact k1.size
  have KW : Hid (Kept Nil w W) := by rw [hW]; exact k1.alloc _
  have HBW : Hid (W.heap[N]? = some (.cells #[.int .i64 r.kd, .string (bs r.v), .int .i64 r.n, .slice ko r.ks.length kc] 34 (0, 0))) := by rw [hW, HNe.out]; exact blk_new _ _
  clear k1 R1 he hz
  have v1 : W.cell? ⟨N, 1, none⟩ = some (.string (bs r.v)) := blk_at HBW.out 1 rfl
  have HRv : Hid (r.v = tells ps (kKey key)) := by show _ = _; rw [HR.out]; exact get_v _ _
  have HO0 := refHeldOf_any r.v (by have := tells_len (ps := ps) (key := kKey key); rw [HRv.out]; omega) W
  obtain ⟨g, HG⟩ : ∃ g, Hid (g = hdOf (tells ps (kKey key))) := ⟨_, rfl⟩
  have HGO : Hid (g.Ok) := by show Hd.Ok _; rw [HG.out]; exact hdOf_ok _
  rw [show hdOf r.v = g by rw [HRv.out, HG.out]] at HO0
  go_wp2_with fail
  rw [← hW, ← HNe.out]
  clear hW
  go_fit HO0
  clear HO0
  rintro _ w2 ⟨rfl, k2⟩
  have K2 : Hid (Kept Nil w w2) := KW.out.trans k2
  have HB2 : Hid (w2.heap[N]? = some (.cells #[.int .i64 r.kd, .string (bs r.v), .int .i64 r.n, .slice ko r.ks.length kc] 34 (0, 0))) := k2.block _ _ HBW.out (fun x => x.elim)
  clear k2 v1
  by_cases c0 : g.b = 0
  · have hb0 : ((g.b : Int) == 0) = true := by simp [c0]
    have HZ2 : Hid (z = g.n) := by
      show _ = _
      rw [HZ.out]
      unfold numOf
      rw [← HG.out]
      unfold Hd.settled
      rw [if_neg (by omega)]
    obtain rfl := HZ2.out
    clear c0
    go_wp2
    go_ret
    exact ⟨rfl, K2.out.alloc _⟩
  · have hb0 : ((g.b : Int) == 0) = false := by simp; omega
    obtain ⟨M, HMe⟩ : ∃ M, Hid (M = w2.heap.size) := ⟨_, rfl⟩
    obtain ⟨X, hX⟩ : ∃ X, X = w2.alloc (.cells #[.int .i64 g.n, .int .i64 g.b, .int .i64 g.t] 44) := ⟨_, rfl⟩
    have KX : Hid (Kept Nil w X) := by rw [hX]; exact K2.out.alloc _
    have HBX : Hid (X.heap[N]? = some (.cells #[.int .i64 r.kd, .string (bs r.v), .int .i64 r.n, .slice ko r.ks.length kc] 34 (0, 0))) := by rw [hX]; exact blk_past HB2.out _
    have HMX : Hid (X.heap[M]? = some (.cells #[.int .i64 g.n, .int .i64 g.b, .int .i64 g.t] 44 (0, 0))) := by rw [hX, HMe.out]; exact blk_new _ _
    have hNM : N ≠ M := by have := lt_of_block HB2.out; rw [HMe.out]; omega
    have c1' : X.cell? ⟨M, 1, none⟩ = some (.int .i64 g.b) := blk_at HMX.out 1 rfl
    have DC := refDecimal_any g.b (by have := HGO.out.b; omega) X
    go_wp2_with fail
    rw [← hX, ← HMe.out]
    clear hX
    go_fit DC
    clear DC
    rintro _ w3 ⟨rfl, k3⟩
    have K3 : Hid (Kept Nil w w3) := KX.out.trans k3
    have he2 : (⟨#[116]⟩ : ByteArray) ++ bs (Lib.decDigits g.b) = bs (tKey g.b) := bs_append [116] _
    have hz2 : (bs (Lib.decDigits g.b)).size ≤ 9 := by rw [bs_size]; exact digits_len9 (by have := HGO.out.b; omega)
    have R2 := RA (tKey g.b) w3 K3.out (by have := digits_len9 (n := g.b) (by have := HGO.out.b; omega); unfold tKey maxLen; simp; omega)
    obtain ⟨q, HQ⟩ : ∃ q, Hid (q = apR 2 (tKey g.b) [] 0 ps) := ⟨_, rfl⟩
    rw [← HQ.out] at R2
    go_wp2_with fail
    go_fit R2
    clear R2
    rintro _ w4 ⟨a2, c2, ko2, kc2, rfl, _, _, k4⟩
    unfold rrV
    have K4 : Hid (Kept Nil w w4) := K3.out.trans k4
    have B4 : w4.heap[N]? = some (.cells #[.int .i64 r.kd, .string (bs r.v), .int .i64 r.n, .slice ko r.ks.length kc] 34 (0, 0)) := k4.block _ _ (k3.block _ _ HBX.out (fun x => x.elim)) (fun x => x.elim)
    have M4 : w4.heap[M]? = some (.cells #[.int .i64 g.n, .int .i64 g.b, .int .i64 g.t] 44 (0, 0)) := k4.block _ _ (k3.block _ _ HMX.out (fun x => x.elim)) (fun x => x.elim)
    clear k3 k4 he2 hz2
    have r0 : w4.cell? ⟨N, 0, none⟩ = some (.int .i64 r.kd) := blk_at B4 0 rfl
    have r1 : w4.cell? ⟨N, 1, none⟩ = some (.string (bs r.v)) := blk_at B4 1 rfl
    have r2 : w4.cell? ⟨N, 2, none⟩ = some (.int .i64 r.n) := blk_at B4 2 rfl
    have r3 : w4.cell? ⟨N, 3, none⟩ = some (.slice ko r.ks.length kc) := blk_at B4 3 rfl
    have z0 : w4.frozen? ⟨N, 0, none⟩ = false := blk_free B4 0
    have z1 : w4.frozen? ⟨N, 1, none⟩ = false := blk_free B4 1
    have z2 : w4.frozen? ⟨N, 2, none⟩ = false := blk_free B4 2
    have z3 : w4.frozen? ⟨N, 3, none⟩ = false := blk_free B4 3
    obtain ⟨V, hV⟩ : ∃ V, V = (((w4.setCell ⟨N, 0, none⟩ (.int .i64 q.kd)).setCell ⟨N, 1, none⟩ (.string (bs q.v))).setCell ⟨N, 2, none⟩ (.int .i64 q.n)).setCell ⟨N, 3, none⟩ (.slice ko2 q.ks.length kc2) := ⟨_, rfl⟩
    have HV : Hid (V.heap[N]? = some (.cells #[.int .i64 q.kd, .string (bs q.v), .int .i64 q.n, .slice ko2 q.ks.length kc2] 34 (0, 0)) ∧ Kept Nil w V) := by
      rw [hV]
      exact ⟨blk_set (blk_set (blk_set (blk_set B4 0 _) 1 _) 2 _) 3 _, (((K4.out.setNew (p := ⟨N, 0, none⟩) HNw.out _).setNew (p := ⟨N, 1, none⟩) HNw.out _).setNew (p := ⟨N, 2, none⟩) HNw.out _).setNew (p := ⟨N, 3, none⟩) HNw.out _⟩
    have HVM : Hid (V.heap[M]? = some (.cells #[.int .i64 g.n, .int .i64 g.b, .int .i64 g.t] 44 (0, 0))) := by
      rw [hV]
      exact blk_other (a := ⟨N, 3, none⟩) (blk_other (a := ⟨N, 2, none⟩) (blk_other (a := ⟨N, 1, none⟩) (blk_other (a := ⟨N, 0, none⟩) M4 (fun e => hNM e.symm) _) (fun e => hNM e.symm) _) (fun e => hNM e.symm) _) (fun e => hNM e.symm) _
    have x1 : V.cell? ⟨N, 1, none⟩ = some (.string (bs q.v)) := blk_at HV.out.1 1 rfl
    have y0 : V.cell? ⟨M, 0, none⟩ = some (.int .i64 g.n) := blk_at HVM.out 0 rfl
    have y2 : V.cell? ⟨M, 2, none⟩ = some (.int .i64 g.t) := blk_at HVM.out 2 rfl
    have HQv : Hid (q.v = tells ps (tKey g.b)) := by show _ = _; rw [HQ.out]; exact get_v _ _
    clear B4 M4
    go_upto_region 7 with fail
    rw [← hV]
    clear hV r0 r1 r2 r3 z0 z1 z2 z3
    by_cases cd : tells ps (tKey g.b) = wDone
    · have hd : ((bs q.v).toList == ([100, 111, 110, 101] : List UInt8)) = true := by rw [bs_toList, HQv.out, cd]; rfl
      have HZ2 : Hid (z = g.t) := by
        show _ = _
        rw [HZ.out]
        unfold numOf
        rw [← HG.out, decide_eq_true cd]
        unfold Hd.settled
        rw [if_pos ⟨rfl, by omega⟩]
      obtain rfl := HZ2.out
      go_wp2
      go_ret
      exact ⟨rfl, HV.out.2⟩
    · have hd : ((bs q.v).toList == ([100, 111, 110, 101] : List UInt8)) = false := by
        rw [bs_toList, HQv.out]
        have cd' : ¬ tells ps (tKey g.b) = [100, 111, 110, 101] := cd
        simpa using cd'
      have HZ2 : Hid (z = g.n) := by
        show _ = _
        rw [HZ.out]
        unfold numOf
        rw [← HG.out, decide_eq_false cd]
        unfold Hd.settled
        rw [if_neg (by simp)]
      obtain rfl := HZ2.out
      go_wp2
      go_ret
      exact ⟨rfl, HV.out.2⟩

/-! ### the law -/
/-- append, where a guard lets it by. -/
theorem wpList_append_srcG {P : Program} {ops : Array Oper} {rest : List Oper} {o : Oper} {a : Act} {Q : Exit → Act → World → Prop} (w : World) (hgd : Region.wanted o (yielded ops a.tmps) = true) (s xo : Operand) (t tx : TypeId)
    (ho : o.op = .call { callee := .builtin .append, args := #[s, xo], argTypes := #[t, tx] })
    (base : Nat) (e : TypeId) (i : TypeInfo) (z : Value) (size bytes : Nat) (ht : P.underlying t = some (.slice e)) (hi : P.info? e = some i) (hz : i.zero = some z)
    (hsize : i.size = size) (hby : i.bytes = bytes) (hzs : z.cells.size = size)
    (v : Value) (n : Nat) (xs : List Value) (hv : a.eval s = v) (hown : w.ownsRow base e size v n xs) (x : Value) (m : Nat) (news : List Value) (hx : a.eval xo = x) (hs : Src P size tx x m news w)
    (h63 : n + m ≤ maxLen) (hbytes : (n + m) * bytes ≤ 140737488355328) (hbase : base ≤ w.heap.size)
    (h : ∀ ao c w', w'.ownsRow base e size (.slice ao (n + m) c) (n + m) (xs ++ news) → w.grownBy w' v.ownBlock → wpList P ops Q rest (a.put o.dst (.slice ao (n + m) c)) w') : wpList P ops Q (o :: rest) a w :=
  wpList_step fun K hK => by
    rw [if_pos hgd]
    refine wp_append_src w s xo t tx ho base e i z size bytes ht hi hz hsize hby hzs v n xs hv hown x m news hx hs h63 hbytes hbase fun v' w' h2 h3 => ?_
    obtain ⟨ao, c, rfl⟩ := own_shape h2
    exact hK _ _ (h ao c w' h2 h3)
def known : List Pr := [⟨[107, 97], [51, 32, 55, 32, 57], 1⟩, ⟨[116, 55], [100, 111, 110, 101], 2⟩]
theorem known_nine : numOf known [97] = 9 := by
  have e1 : tells known (kKey [97]) = [51, 32, 55, 32, 57] := by decide +kernel
  have e2 : ([51, 32, 55, 32, 57] : List UInt8) = Hd.txt ⟨3, 7, 9⟩ := by
    unfold Hd.txt
    rw [decDigits_small (show 3 < 10 by decide), decDigits_small (show 7 < 10 by decide), decDigits_small (show 9 < 10 by decide)]
    rfl
  have e3 : hdOf [51, 32, 55, 32, 57] = ⟨3, 7, 9⟩ := by
    rw [e2]
    exact hdOf_txt ⟨by decide, by decide, by decide, by decide⟩
  have e4 : tKey 7 = [116, 55] := by
    unfold tKey
    rw [decDigits_small (show 7 < 10 by decide)]
    rfl
  have e5 : tells known [116, 55] = wDone := by decide +kernel
  unfold numOf
  rw [e1, e3]
  simp only
  rw [e4, e5]
  rfl
theorem known_row (w : World) : PairRow (w.heap.size + 1) (w.alloc (.cells #[.string (bs [107, 97]), .string (bs [51, 32, 55, 32, 57]), .int .i64 1, .string (bs [116, 55]), .string (bs [100, 111, 110, 101]), .int .i64 2] 25)) (some ⟨w.heap.size, 0, none⟩) known := fun j hj => by
  have B := blk_new w (.cells #[.string (bs [107, 97]), .string (bs [51, 32, 55, 32, 57]), .int .i64 1, .string (bs [116, 55]), .string (bs [100, 111, 110, 101]), .int .i64 2] 25)
  match j, hj with
  | 0, _ => exact ⟨_, rfl, Nat.lt_succ_self _, blk_at B 0 rfl, blk_at B 1 rfl, blk_at B 2 rfl, by simp [known, maxLen], by simp [known, maxLen]⟩
  | 1, _ => exact ⟨_, rfl, Nat.lt_succ_self _, blk_at B 3 rfl, blk_at B 4 rfl, blk_at B 5 rfl, by simp [known, maxLen], by simp [known, maxLen]⟩
set_option maxRecDepth 100000 in
set_option maxHeartbeats 4000000 in
theorem txnNumbers_any (B c : Nat) (ao : Option Addr) (ps : List Pr) (key : List UInt8) (w : World) (hL : LD w) (h : PairRow B w ao ps) (hl : (ps.length : Int) ≤ 3518437208780) (hk : key.length ≤ 140737488355328) :
    Calls Tryd.prog 3 #[.slice ao ps.length c, .string (bs key)] w fun e w' => e = .returned (.bool true) ∧ Kept Nil w w' := by
  have HL : Hid (LD w) := hL
  have HP : Hid (PairRow B w ao ps) := h
  have HKk : Hid (key.length ≤ 140737488355328) := hk
  obtain ⟨W, hW⟩ : ∃ W, W = w.alloc (.cells #[.string (bs [107, 97]), .string (bs [51, 32, 55, 32, 57]), .int .i64 1, .string (bs [116, 55]), .string (bs [100, 111, 110, 101]), .int .i64 2] 25) := ⟨_, rfl⟩
  have hW' : W = w.alloc (.cells #[.string ⟨#[107, 97]⟩, .string ⟨#[51, 32, 55, 32, 57]⟩, .int .i64 1, .string ⟨#[116, 55]⟩, .string ⟨#[100, 111, 110, 101]⟩, .int .i64 2] 25) := hW
  have KW : Hid (Kept Nil w W) := by rw [hW]; exact (Kept.refl _ _).alloc _
  have N0 := number_any (w.heap.size + 1) 2 (some ⟨w.heap.size, 0, none⟩) known [97] W (hL.kept KW.out) (by rw [hW]; exact known_row w) (fun e => by cases e) (by simp [known]) (by simp)
  rw [known_nine] at N0
  have N1 : Calls Tryd.prog 4 #[.slice (some ⟨w.heap.size, 0, none⟩) 2 2, .string ⟨#[97]⟩] W fun e w' => e = .returned (.int .i64 9) ∧ Kept Nil W w' := N0
  have RN : ∀ X, Kept Nil w X → Calls Tryd.prog 5 #[.slice ao ps.length c, .string (bs key)] X fun e w' => e = .returned (.int .i64 (numOf ps key)) ∧ Kept Nil X w' := fun X kX => refNumberOf_any B c ao ps key X (h.nil kX) hl hk
  have RP : ∀ X, Kept Nil w X → Calls Tryd.prog 6 #[.slice ao ps.length c] X fun e w' => e = .returned (.bool (pairsOk ps)) ∧ Kept Nil X w' := fun X kX => refIsPairs_any B c ao ps X (h.nil kX) (by omega)
  obtain ⟨i0, hi, hz0, hz1, hz2⟩ := info_parts Tryd.infoPr
  clear N0 hW hL h hk
  go_enter Tryd.func3, Tryd.ntmps3
  go_wp2_with fail
  rw [← hW']
  clear hW'
  go_fit N1
  clear N1
  rintro _ w1 ⟨rfl, k1⟩
  have K1 : Hid (Kept Nil w w1) := KW.out.trans k1
  clear k1
  have R1 := RN w1 K1.out
  go_wp2_with fail
  go_fit R1
  clear R1 RN
  rintro _ w2 ⟨rfl, k2⟩
  have K2 : Hid (Kept Nil w w2) := K1.out.trans k2
  clear k2
  have R2 := RP w2 K2.out
  go_wp2_with fail
  go_fit R2
  clear R2 RP
  rintro _ w3 ⟨rfl, k3⟩
  have K3 : Hid (Kept Nil w w3) := K2.out.trans k3
  clear k3
  cases hp : pairsOk ps with
  | false =>
    clear hp
    go_wp2
    go_ret
    exact ⟨rfl, K3.out⟩
  | true =>
    have hlen : ps.length ≤ 32 := (pairs_ok hp).1
    clear hp
    have HR3 : Hid (PairRow B w3 ao ps) := HP.out.nil K3.out
    have HS : Hid (Src Tryd.prog 3 22 (.slice ao ps.length c) ps.length (kvCells ps) w3) := HR3.out.src
    have HO : Hid (w3.ownsRow w3.heap.size 25 3 (.slice none 0 0) 0 []) := World.ownsRow_nil _ _ _ _
    have HLL : Hid (0 + ps.length ≤ maxLen ∧ (0 + ps.length) * 40 ≤ 140737488355328) := by constructor <;> (try unfold maxLen) <;> omega
    go_wp2_with (at_builtin; go_must (refine wpList_append_srcG _ rfl _ _ 22 22 rfl w3.heap.size 25 i0 (.agg #[.string ⟨#[]⟩, .string ⟨#[]⟩, .int .i64 0]) 3 40 Tryd.underlying22 hi hz0 hz1 hz2 rfl _ _ _ rfl HO.out (.slice ao ps.length c) ps.length (kvCells ps) rfl HS.out HLL.out.1 HLL.out.2 (Nat.le_refl _) ?_); intro a1 c1 w4 ho' hg'; have HO1 : Hid (OwnP w3.heap.size w4 a1 c1 ps) := (by have := ho'; rw [Nat.zero_add, List.nil_append] at this; exact this); have K4 : Hid (Kept Nil w w4) := K3.out.grown hg' (fun q hq => Nat.le_trans K3.out.size (own_row HO.out q hq)); rw [Nat.zero_add]; clear ho' hg')
    have N2 := number_any w4.heap.size c1 a1 ps key w4 (HL.out.kept K4.out) (HO1.out.row HP.out.fit) (fun e => by have := HO1.out; rw [e] at this; exact ownP_nil this) (by omega) HKk.out
    go_wp2_with fail
    go_fit N2
    clear N2
    rintro _ w5 ⟨rfl, k5⟩
    have K5 : Hid (Kept Nil w w5) := K4.out.trans k5
    clear k5
    have hee : ((numOf ps key : Int) == (numOf ps key : Int)) = true := by simp
    go_wp2
    go_ret
    exact ⟨rfl, K5.out⟩
end Go.Proofs.YtgkacepcggjfkaaDoor
