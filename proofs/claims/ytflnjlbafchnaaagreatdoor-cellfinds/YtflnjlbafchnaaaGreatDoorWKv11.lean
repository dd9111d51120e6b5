/-
  kv: swap and do.
-/
import Derived.Test.YtflnjlbafchnaaaGreatDoorWKv7
import Derived.Test.YtflnjlbafchnaaaGreatDoorWKv8
import Derived.Test.YtflnjlbafchnaaaGreatDoorWKv10
namespace Go.Proofs.YtflnjlbafchnaaaGreatDoor
open Go.RowKit

/-- A result. -/
structure Rr where
  kd : Int
  v : List UInt8
  n : Int
  ks : List (List UInt8)
def rrV (r : Rr) (ko : Option Addr) (kc : Nat) : Value := .agg #[.int .i64 r.kd, .string (bs r.v), .int .i64 r.n, .slice ko r.ks.length kc]
def putRr (x : List UInt8) (n : Int) (len : Nat) : Rr := if roomB len n x = false then ⟨4, [], 0, []⟩ else ⟨1, [], n + 1, []⟩
def tellRr (kd : Int) (v : List UInt8) (n : Int) : Rr := if n = 0 then ⟨2, [], 0, []⟩ else ⟨kd, v, n, []⟩
def dropRr (n : Int) : Rr := if n = 0 then ⟨2, [], 0, []⟩ else ⟨1, [], n, []⟩
def swapP (key val : List UInt8) (m n : Int) (i : Nat) (ps : List Pr) : List Pr := if n = m then putP key val n i ps else ps
def swapRr (val v : List UInt8) (m n : Int) (len : Nat) : Rr := if n = m then putRr val n len else tellRr 3 v n
theorem putR_is (x : List UInt8) (n : Int) (len : Nat) : putR x n len = rrV (putRr x n len) none 0 ∧ (putRr x n len).ks = [] := by unfold putR putRr; split <;> exact ⟨rfl, rfl⟩
theorem tellR_is (kd : Int) (v : List UInt8) (n : Int) : (if n = 0 then resV 2 [] 0 else resV kd v n) = rrV (tellRr kd v n) none 0 ∧ (tellRr kd v n).ks = [] := by unfold tellRr; split <;> exact ⟨rfl, rfl⟩
theorem dropR_is (n : Int) : dropR n = rrV (dropRr n) none 0 ∧ (dropRr n).ks = [] := by unfold dropR dropRr; split <;> exact ⟨rfl, rfl⟩
theorem OwnK.nil (B : Nat) (w : World) : OwnK B w none 0 [] := World.ownsRow_nil _ _ _ _
theorem ownK_of_nil {B : Nat} {w : World} {ks : List (List UInt8)} (h : ks = []) : OwnK B w none 0 ks := by rw [h]; exact OwnK.nil B w
/-- What stands behind a call on a spot: a result, the spot with its pairs, all else as it was. -/
def SpotPost (w0 w : World) (b i : Nat) (ao : Option Addr) (key v : List UInt8) (n : Int) (ps : List Pr) (r : Rr) (e : Ending) (w' : World) : Prop :=
  ∃ ao' c' ko kc, e = .returned (rrV r ko kc) ∧ SpotAt w' b key v n ao' ps.length c' i ∧ OwnP w0.heap.size w' ao' c' ps ∧ OwnK w0.heap.size w' ko kc r.ks ∧ KK w0 w b ao w'
theorem putS_any (w0 : World) (b c i : Nat) (ao : Option Addr) (ps : List Pr) (key v x : List UInt8) (n : Int) (w : World) (hb : SpotAt w b key v n ao ps.length c i) (hO : OwnP w0.heap.size w ao c ps) (hK : Kept Nil w0 w) (hwb : w0.heap.size ≤ b) (hl : ps.length ≤ 32) (hn0 : 0 ≤ n) (hi0 : i ≤ ps.length) (hi1 : n ≠ 0 → i < ps.length) :
    Calls Tryz.prog 115 #[.pointer (some ⟨b, 0, none⟩), .string (bs x)] w (SpotPost w0 w b i ao key v n (putP key x n i ps) (putRr x n ps.length)) :=
  (put_any w0 b c i ao ps key v x n w hb hO hK hwb hl hn0 (fun _ => hi0) hi1).mono fun e w' ⟨h1, ao', c', h2, h3, h4⟩ => ⟨ao', c', none, 0, by rw [h1, (putR_is x n ps.length).1], h2, h3, ownK_of_nil (putR_is x n ps.length).2, h4⟩
theorem tellS_any (w0 : World) (b c i : Nat) (ao : Option Addr) (ps : List Pr) (key v : List UInt8) (n kd : Int) (w : World) (hb : SpotAt w b key v n ao ps.length c i) (hO : OwnP w0.heap.size w ao c ps) (hK : Kept Nil w0 w) :
    Calls Tryz.prog 116 #[.pointer (some ⟨b, 0, none⟩), .int .i64 kd] w (SpotPost w0 w b i ao key v n ps (tellRr kd v n)) :=
  (tell_any b ps.length c key v n i kd ao w hb).mono fun e w' ⟨h1, h2⟩ => ⟨ao, c, none, 0, by rw [h1, (tellR_is kd v n).1], h2.block _ _ hb (fun x => x.elim), hO.kept h2, ownK_of_nil (tellR_is kd v n).2, (KK.start hK).then h2⟩
theorem dropS_any (w0 : World) (b c i : Nat) (ao : Option Addr) (ps : List Pr) (key v : List UInt8) (n : Int) (w : World) (hb : SpotAt w b key v n ao ps.length c i) (hO : OwnP w0.heap.size w ao c ps) (hK : Kept Nil w0 w) (hwb : w0.heap.size ≤ b) (hl : ps.length ≤ 32) (hi1 : n ≠ 0 → i < ps.length) :
    Calls Tryz.prog 117 #[.pointer (some ⟨b, 0, none⟩)] w (SpotPost w0 w b i ao key v n (dropP n i ps) (dropRr n)) :=
  (drop_any w0 b c i ao ps key v n w hb hO hK hwb hl hi1).mono fun e w' ⟨h1, ao', c', h2, h3, h4⟩ => ⟨ao', c', none, 0, by rw [h1, (dropR_is n).1], h2, h3, ownK_of_nil (dropR_is n).2, h4⟩
theorem listS_any (w0 : World) (b c i : Nat) (ao : Option Addr) (ps : List Pr) (key v : List UInt8) (n most : Int) (w : World) (hb : SpotAt w b key v n ao ps.length c i) (hO : OwnP w0.heap.size w ao c ps) (hK : Kept Nil w0 w) (hl : ps.length ≤ 32) (hi0 : i ≤ ps.length) (hf : Fit ps) :
    Calls Tryz.prog 119 #[.pointer (some ⟨b, 0, none⟩), .int .i64 most] w (SpotPost w0 w b i ao key v n ps ⟨1, [], 0, (listP key most (ps.drop i)).map Pr.k⟩) :=
  (list_any w0.heap.size b c i ao ps key v n most w hb hO hi0 hl hf).mono fun e w' ⟨ko, kc, h1, h2, h3⟩ => ⟨ao, c, ko, kc, by rw [h1]; unfold resK rrV; rw [List.length_map]; rfl, h3.block _ _ hb (fun x => x.elim), hO.kept h3, own_mono h2 hK.size, (KK.start hK).then h3⟩
/-- A result is written into a new block of the caller's. -/
theorem post_store {w0 w w1 : World} {b i pr c' kc : Nat} {ao ao' ko : Option Addr} {key v : List UInt8} {n : Int} {ps : List Pr} {r : Rr} {x0 x1 x2 x3 : Value} (h2 : SpotAt w1 b key v n ao' ps.length c' i) (h3 : OwnP w0.heap.size w1 ao' c' ps) (h4 : OwnK w0.heap.size w1 ko kc r.ks) (h5 : KK w0 w b ao w1) (HN : w1.heap[pr]? = some (.cells #[x0, x1, x2, x3] 50 (0, 0))) (hp : w0.heap.size ≤ pr) (hq : New w pr) :
    (set4 w1 pr (.int .i64 r.kd) (.string (bs r.v)) (.int .i64 r.n) (.slice ko r.ks.length kc)).heap[pr]? = some (.cells #[.int .i64 r.kd, .string (bs r.v), .int .i64 r.n, .slice ko r.ks.length kc] 50 (0, 0)) ∧ SpotPost w0 w b i ao key v n ps r (.returned (rrV r ko kc)) (set4 w1 pr (.int .i64 r.kd) (.string (bs r.v)) (.int .i64 r.n) (.slice ko r.ks.length kc)) := by
  obtain ⟨g1, g2, g3, g4⟩ := set4_all HN h2 h3 h5 hp hq (.int .i64 r.kd) (.string (bs r.v)) (.int .i64 r.n) (.slice ko r.ks.length kc)
  have hne : (Value.slice ko r.ks.length kc).ownBlock ≠ some pr := fun e => by
    have hk := h4.2
    rcases hk with ⟨hv, _⟩ | ⟨g, cap, cur, hv, hb, hh, _⟩
    · rw [hv] at e; simp [Value.ownBlock] at e
    · rw [hv] at e
      simp [Value.ownBlock] at e
      subst e
      rw [hh] at HN
      simp at HN
  exact ⟨g1, ao', c', ko, kc, rfl, g2, g3, ownsRow_setCell_other (ownsRow_setCell_other (ownsRow_setCell_other (ownsRow_setCell_other h4 hne _) hne _) hne _) hne _, g4⟩

set_option maxRecDepth 100000 in
set_option maxHeartbeats 2000000 in
theorem swapS_any (w0 : World) (b c i : Nat) (ao : Option Addr) (ps : List Pr) (ck val key v : List UInt8) (kd m n : Int) (w : World) (hb : SpotAt w b key v n ao ps.length c i) (hO : OwnP w0.heap.size w ao c ps) (hK : Kept Nil w0 w) (hwb : w0.heap.size ≤ b) (hl : ps.length ≤ 32) (hn0 : 0 ≤ n) (hi0 : i ≤ ps.length) (hi1 : n ≠ 0 → i < ps.length) :
    Calls Tryz.prog 118 #[.pointer (some ⟨b, 0, none⟩), .agg #[.int .i64 kd, .string (bs ck), .string (bs val), .int .i64 m]] w (SpotPost w0 w b i ao key v n (swapP key val m n i ps) (swapRr val v m n ps.length)) := by
  obtain ⟨W, hW⟩ : ∃ W, W = (w.alloc (.cells #[.int .i64 kd, .string (bs ck), .string (bs val), .int .i64 m] 31)).alloc (.cells #[.int .i64 0, .string ⟨#[]⟩, .int .i64 0, .slice none 0 0] 50) := ⟨_, rfl⟩
  have KW : Hid (Kept Nil w W) := by rw [hW]; exact ((Kept.refl _ _).alloc _).alloc _
  have HB : Hid (SpotAt W b key v n ao ps.length c i) := KW.out.block _ _ hb (fun x => x.elim)
  have HO : Hid (OwnP w0.heap.size W ao c ps) := hO.kept KW.out
  have HK : Hid (Kept Nil w0 W) := hK.trans KW.out
  have HC : Hid (W.heap[w.heap.size]? = some (.cells #[.int .i64 kd, .string (bs ck), .string (bs val), .int .i64 m] 31 (0, 0))) := by rw [hW]; exact blk_past (blk_new _ _) _
  have HN : Hid (W.heap[w.heap.size + 1]? = some (.cells #[.int .i64 0, .string ⟨#[]⟩, .int .i64 0, .slice none 0 0] 50 (0, 0))) := by
    rw [hW]
    have := blk_new (w.alloc (.cells #[.int .i64 kd, .string (bs ck), .string (bs val), .int .i64 m] 31)) (.cells #[.int .i64 0, .string ⟨#[]⟩, .int .i64 0, .slice none 0 0] 50)
    show _ = _
    simpa using this
  have HP : Hid (w0.heap.size ≤ w.heap.size + 1 ∧ New w (w.heap.size + 1) ∧ ¬ Two b ao (w.heap.size + 1) (.cells #[.int .i64 0, .string ⟨#[]⟩, .int .i64 0, .slice none 0 0] 50 (0, 0))) := ⟨by have := hK.size; omega, Nat.le_succ _, fun x => by
    rcases x with e | ⟨a, ha, e⟩
    · have := lt_of_block hb; omega
    · obtain ⟨g, cs, e0, _, hblk, _⟩ := hO.block (by rw [ha]; simp)
      rw [ha] at e0
      cases e0
      have := lt_of_block hblk
      simp only at e
      omega⟩
  have q1 : W.cell? ⟨b, 1, none⟩ = some (.string (bs v)) := blk_at HB.out 1 rfl
  have q2 : W.cell? ⟨b, 2, none⟩ = some (.int .i64 n) := blk_at HB.out 2 rfl
  have d0 : W.cell? ⟨w.heap.size, 0, none⟩ = some (.int .i64 kd) := blk_at HC.out 0 rfl
  have d1 : W.cell? ⟨w.heap.size, 1, none⟩ = some (.string (bs ck)) := blk_at HC.out 1 rfl
  have d2 : W.cell? ⟨w.heap.size, 2, none⟩ = some (.string (bs val)) := blk_at HC.out 2 rfl
  have d3 : W.cell? ⟨w.heap.size, 3, none⟩ = some (.int .i64 m) := blk_at HC.out 3 rfl
  clear hb hO hK
  have KWX : Hid (Kept Nil w W.drew) := KW.out.drew
  by_cases hm : n = m
  · subst hm
    have HS : Hid (swapP key val n n i ps = putP key val n i ps ∧ swapRr val v n n ps.length = putRr val n ps.length) := ⟨if_pos rfl, if_pos rfl⟩
    rw [HS.out.1, HS.out.2]
    have PUT := putS_any w0 b c i ao ps key v val n W.drew HB.out (HO.out.kept (Kept.refl _ _).drew) HK.out.drew hwb hl hn0 hi0 hi1
    go_enter Tryz.func118, Tryz.ntmps118
    go_upto_region 1 with fail
    rw [← hW]
    obtain ⟨C, HCe⟩ : ∃ C, Hid (C = w.heap.size) := ⟨_, rfl⟩
    obtain ⟨pr, HPe⟩ : ∃ pr, Hid (pr = w.heap.size + 1) := ⟨_, rfl⟩
    rw [← HPe.out] at HN HP ⊢
    rw [← HCe.out] at HC d0 d1 d2 d3 ⊢
    clear hW
    go_region
    go_wp2_with fail
    go_fit PUT
    rintro _ w1 ⟨ao', c', ko, kc, rfl, h2, h3, h4, h5⟩
    have HN1 : Hid (w1.heap[pr]? = some (.cells #[.int .i64 0, .string ⟨#[]⟩, .int .i64 0, .slice none 0 0] 50 (0, 0))) := h5.two.block _ _ HN.out HP.out.2.2
    have HST := post_store (w := w) h2 h3 h4 ⟨h5.old, (KWX.out.mono fun _ _ x => x.elim).trans h5.two⟩ HN1.out HP.out.1 HP.out.2.1
    clear h2 h3 h4 h5
    generalize (putRr val n ps.length) = r at *
    obtain ⟨rk, rv, rn, rks⟩ := r
    have r0 : w1.cell? ⟨pr, 0, none⟩ = some (.int .i64 0) := blk_at HN1.out 0 rfl
    have r1 : w1.cell? ⟨pr, 1, none⟩ = some (.string ⟨#[]⟩) := blk_at HN1.out 1 rfl
    have r2 : w1.cell? ⟨pr, 2, none⟩ = some (.int .i64 0) := blk_at HN1.out 2 rfl
    have r3 : w1.cell? ⟨pr, 3, none⟩ = some (.slice none 0 0) := blk_at HN1.out 3 rfl
    have z0 : w1.frozen? ⟨pr, 0, none⟩ = false := blk_free HN1.out 0
    have z1 : w1.frozen? ⟨pr, 1, none⟩ = false := blk_free HN1.out 1
    have z2 : w1.frozen? ⟨pr, 2, none⟩ = false := blk_free HN1.out 2
    have z3 : w1.frozen? ⟨pr, 3, none⟩ = false := blk_free HN1.out 3
    obtain ⟨V, hV⟩ : ∃ V, V = (((w1.setCell ⟨pr, 0, none⟩ (.int .i64 rk)).setCell ⟨pr, 1, none⟩ (.string (bs rv))).setCell ⟨pr, 2, none⟩ (.int .i64 rn)).setCell ⟨pr, 3, none⟩ (.slice ko rks.length kc) := ⟨_, rfl⟩
    have HV : Hid (V.heap[pr]? = some (.cells #[.int .i64 rk, .string (bs rv), .int .i64 rn, .slice ko rks.length kc] 50 (0, 0)) ∧ SpotPost w0 w b i ao key v n (putP key val n i ps) ⟨rk, rv, rn, rks⟩ (.returned (rrV ⟨rk, rv, rn, rks⟩ ko kc)) V) := (by rw [hV]; exact HST)
    unfold rrV
    dsimp only
    go_wp2
    rw [← hV]
    clear hV r0 r1 r2 r3
    have j0 := blk_at HV.out.1 0 rfl
    have j1 := blk_at HV.out.1 1 rfl
    have j2 := blk_at HV.out.1 2 rfl
    have j3 := blk_at HV.out.1 3 rfl
    exact bodyPost_ret (v := rrV ⟨rk, rv, rn, rks⟩ ko kc) (by simp [results, Tryz.results118, go_sem, j0, j1, j2, j3, rrV]) rfl HV.out.2
  · have HS : Hid (swapP key val m n i ps = ps ∧ swapRr val v m n ps.length = tellRr 3 v n) := ⟨if_neg hm, if_neg hm⟩
    have hmb : (n == m) = false := beq_eq_false_iff_ne.2 hm
    rw [HS.out.1, HS.out.2]
    have PUT := tellS_any w0 b c i ao ps key v n 3 W.drew HB.out (HO.out.kept (Kept.refl _ _).drew) HK.out.drew
    go_enter Tryz.func118, Tryz.ntmps118
    go_upto_region 1 with fail
    rw [← hW]
    obtain ⟨C, HCe⟩ : ∃ C, Hid (C = w.heap.size) := ⟨_, rfl⟩
    obtain ⟨pr, HPe⟩ : ∃ pr, Hid (pr = w.heap.size + 1) := ⟨_, rfl⟩
    rw [← HPe.out] at HN HP ⊢
    rw [← HCe.out] at HC d0 d1 d2 d3 ⊢
    clear hW
    go_region
    go_wp2_with fail
    go_fit PUT
    rintro _ w1 ⟨ao', c', ko, kc, rfl, h2, h3, h4, h5⟩
    have HN1 : Hid (w1.heap[pr]? = some (.cells #[.int .i64 0, .string ⟨#[]⟩, .int .i64 0, .slice none 0 0] 50 (0, 0))) := h5.two.block _ _ HN.out HP.out.2.2
    have HST := post_store (w := w) h2 h3 h4 ⟨h5.old, (KWX.out.mono fun _ _ x => x.elim).trans h5.two⟩ HN1.out HP.out.1 HP.out.2.1
    clear h2 h3 h4 h5
    generalize (tellRr 3 v n) = r at *
    obtain ⟨rk, rv, rn, rks⟩ := r
    have r0 : w1.cell? ⟨pr, 0, none⟩ = some (.int .i64 0) := blk_at HN1.out 0 rfl
    have r1 : w1.cell? ⟨pr, 1, none⟩ = some (.string ⟨#[]⟩) := blk_at HN1.out 1 rfl
    have r2 : w1.cell? ⟨pr, 2, none⟩ = some (.int .i64 0) := blk_at HN1.out 2 rfl
    have r3 : w1.cell? ⟨pr, 3, none⟩ = some (.slice none 0 0) := blk_at HN1.out 3 rfl
    have z0 : w1.frozen? ⟨pr, 0, none⟩ = false := blk_free HN1.out 0
    have z1 : w1.frozen? ⟨pr, 1, none⟩ = false := blk_free HN1.out 1
    have z2 : w1.frozen? ⟨pr, 2, none⟩ = false := blk_free HN1.out 2
    have z3 : w1.frozen? ⟨pr, 3, none⟩ = false := blk_free HN1.out 3
    obtain ⟨V, hV⟩ : ∃ V, V = (((w1.setCell ⟨pr, 0, none⟩ (.int .i64 rk)).setCell ⟨pr, 1, none⟩ (.string (bs rv))).setCell ⟨pr, 2, none⟩ (.int .i64 rn)).setCell ⟨pr, 3, none⟩ (.slice ko rks.length kc) := ⟨_, rfl⟩
    have HV : Hid (V.heap[pr]? = some (.cells #[.int .i64 rk, .string (bs rv), .int .i64 rn, .slice ko rks.length kc] 50 (0, 0)) ∧ SpotPost w0 w b i ao key v n (ps) ⟨rk, rv, rn, rks⟩ (.returned (rrV ⟨rk, rv, rn, rks⟩ ko kc)) V) := (by rw [hV]; exact HST)
    unfold rrV
    dsimp only
    go_wp2
    rw [← hV]
    clear hV r0 r1 r2 r3
    have j0 := blk_at HV.out.1 0 rfl
    have j1 := blk_at HV.out.1 1 rfl
    have j2 := blk_at HV.out.1 2 rfl
    have j3 := blk_at HV.out.1 3 rfl
    exact bodyPost_ret (v := rrV ⟨rk, rv, rn, rks⟩ ko kc) (by simp [results, Tryz.results118, go_sem, j0, j1, j2, j3, rrV]) rfl HV.out.2

/-- What a command makes of the pairs. -/
def doP (kd : Int) (key val : List UInt8) (m : Int) (v : List UInt8) (n : Int) (i : Nat) (ps : List Pr) : List Pr := if kd = 1 then putP key val n i ps else if kd = 2 then ps else if kd = 3 then dropP n i ps else if kd = 4 then swapP key val m n i ps else if kd = 5 then putP key (v ++ val) n i ps else ps
def doR (kd : Int) (key val : List UInt8) (m : Int) (v : List UInt8) (n : Int) (i : Nat) (ps : List Pr) : Rr := if kd = 1 then putRr val n ps.length else if kd = 2 then tellRr 1 v n else if kd = 3 then dropRr n else if kd = 4 then swapRr val v m n ps.length else if kd = 5 then putRr (v ++ val) n ps.length else ⟨1, [], 0, (listP key m (ps.drop i)).map Pr.k⟩
set_option maxRecDepth 100000 in
set_option maxHeartbeats 4000000 in
theorem doS_any (w0 : World) (b c i : Nat) (ao : Option Addr) (ps : List Pr) (ck val key v : List UInt8) (kd m n : Int) (w : World) (hb : SpotAt w b key v n ao ps.length c i) (hO : OwnP w0.heap.size w ao c ps) (hK : Kept Nil w0 w) (hwb : w0.heap.size ≤ b) (hl : ps.length ≤ 32) (hn0 : 0 ≤ n) (hi0 : i ≤ ps.length) (hi1 : n ≠ 0 → i < ps.length) (hf : Fit ps) (hvs : v.length + val.length ≤ 1000000) :
    Calls Tryz.prog 71 #[.pointer (some ⟨b, 0, none⟩), .agg #[.int .i64 kd, .string (bs ck), .string (bs val), .int .i64 m]] w (SpotPost w0 w b i ao key v n (doP kd key val m v n i ps) (doR kd key val m v n i ps)) := by
  obtain ⟨W, hW⟩ : ∃ W, W = (w.alloc (.cells #[.int .i64 kd, .string (bs ck), .string (bs val), .int .i64 m] 31)).alloc (.cells #[.int .i64 0, .string ⟨#[]⟩, .int .i64 0, .slice none 0 0] 50) := ⟨_, rfl⟩
  have KW : Hid (Kept Nil w W) := by rw [hW]; exact ((Kept.refl _ _).alloc _).alloc _
  have HB : Hid (SpotAt W b key v n ao ps.length c i) := KW.out.block _ _ hb (fun x => x.elim)
  have HO : Hid (OwnP w0.heap.size W ao c ps) := hO.kept KW.out
  have HK : Hid (Kept Nil w0 W) := hK.trans KW.out
  have HC : Hid (W.heap[w.heap.size]? = some (.cells #[.int .i64 kd, .string (bs ck), .string (bs val), .int .i64 m] 31 (0, 0))) := by rw [hW]; exact blk_past (blk_new _ _) _
  have HN : Hid (W.heap[w.heap.size + 1]? = some (.cells #[.int .i64 0, .string ⟨#[]⟩, .int .i64 0, .slice none 0 0] 50 (0, 0))) := by
    rw [hW]
    have := blk_new (w.alloc (.cells #[.int .i64 kd, .string (bs ck), .string (bs val), .int .i64 m] 31)) (.cells #[.int .i64 0, .string ⟨#[]⟩, .int .i64 0, .slice none 0 0] 50)
    show _ = _
    simpa using this
  have HP : Hid (w0.heap.size ≤ w.heap.size + 1 ∧ New w (w.heap.size + 1) ∧ ¬ Two b ao (w.heap.size + 1) (.cells #[.int .i64 0, .string ⟨#[]⟩, .int .i64 0, .slice none 0 0] 50 (0, 0))) := ⟨by have := hK.size; omega, Nat.le_succ _, fun x => by
    rcases x with e | ⟨a, ha, e⟩
    · have := lt_of_block hb; omega
    · obtain ⟨g, cs, e0, _, hblk, _⟩ := hO.block (by rw [ha]; simp)
      rw [ha] at e0
      cases e0
      have := lt_of_block hblk
      simp only at e
      omega⟩
  have q1 : W.cell? ⟨b, 1, none⟩ = some (.string (bs v)) := blk_at HB.out 1 rfl
  have q2 : W.cell? ⟨b, 2, none⟩ = some (.int .i64 n) := blk_at HB.out 2 rfl
  have d0 : W.cell? ⟨w.heap.size, 0, none⟩ = some (.int .i64 kd) := blk_at HC.out 0 rfl
  have d1 : W.cell? ⟨w.heap.size, 1, none⟩ = some (.string (bs ck)) := blk_at HC.out 1 rfl
  have d2 : W.cell? ⟨w.heap.size, 2, none⟩ = some (.string (bs val)) := blk_at HC.out 2 rfl
  have d3 : W.cell? ⟨w.heap.size, 3, none⟩ = some (.int .i64 m) := blk_at HC.out 3 rfl
  clear hb hO hK
  have KWX : Hid (Kept Nil w W) := KW.out
  by_cases h1 : kd = 1
  · subst h1
    have HS : Hid (doP 1 key val m v n i ps = putP key val n i ps ∧ doR 1 key val m v n i ps = putRr val n ps.length) := ⟨by unfold doP; simp, by unfold doR; simp⟩
    rw [HS.out.1, HS.out.2]
    have PUT := putS_any w0 b c i ao ps key v val n W HB.out HO.out HK.out hwb hl hn0 hi0 hi1
    go_enter Tryz.func71, Tryz.ntmps71
    go_upto_region 1 with fail
    rw [← hW]
    obtain ⟨C, HCe⟩ : ∃ C, Hid (C = w.heap.size) := ⟨_, rfl⟩
    obtain ⟨pr, HPe⟩ : ∃ pr, Hid (pr = w.heap.size + 1) := ⟨_, rfl⟩
    rw [← HPe.out] at HN HP ⊢
    rw [← HCe.out] at HC d0 d1 d2 d3 ⊢
    clear hW
    go_wp2_with fail
    go_fit PUT
    rintro _ w1 ⟨ao', c', ko, kc, rfl, h2, h3, h4, h5⟩
    have HN1 : Hid (w1.heap[pr]? = some (.cells #[.int .i64 0, .string ⟨#[]⟩, .int .i64 0, .slice none 0 0] 50 (0, 0))) := h5.two.block _ _ HN.out HP.out.2.2
    have HST := post_store (w := w) h2 h3 h4 ⟨h5.old, (KWX.out.mono fun _ _ x => x.elim).trans h5.two⟩ HN1.out HP.out.1 HP.out.2.1
    clear h2 h3 h4 h5
    generalize (putRr val n ps.length) = r at *
    obtain ⟨rk, rv, rn, rks⟩ := r
    have r0 : w1.cell? ⟨pr, 0, none⟩ = some (.int .i64 0) := blk_at HN1.out 0 rfl
    have r1 : w1.cell? ⟨pr, 1, none⟩ = some (.string ⟨#[]⟩) := blk_at HN1.out 1 rfl
    have r2 : w1.cell? ⟨pr, 2, none⟩ = some (.int .i64 0) := blk_at HN1.out 2 rfl
    have r3 : w1.cell? ⟨pr, 3, none⟩ = some (.slice none 0 0) := blk_at HN1.out 3 rfl
    have z0 : w1.frozen? ⟨pr, 0, none⟩ = false := blk_free HN1.out 0
    have z1 : w1.frozen? ⟨pr, 1, none⟩ = false := blk_free HN1.out 1
    have z2 : w1.frozen? ⟨pr, 2, none⟩ = false := blk_free HN1.out 2
    have z3 : w1.frozen? ⟨pr, 3, none⟩ = false := blk_free HN1.out 3
    obtain ⟨V, hV⟩ : ∃ V, V = (((w1.setCell ⟨pr, 0, none⟩ (.int .i64 rk)).setCell ⟨pr, 1, none⟩ (.string (bs rv))).setCell ⟨pr, 2, none⟩ (.int .i64 rn)).setCell ⟨pr, 3, none⟩ (.slice ko rks.length kc) := ⟨_, rfl⟩
    have HV : Hid (V.heap[pr]? = some (.cells #[.int .i64 rk, .string (bs rv), .int .i64 rn, .slice ko rks.length kc] 50 (0, 0)) ∧ SpotPost w0 w b i ao key v n (putP key val n i ps) ⟨rk, rv, rn, rks⟩ (.returned (rrV ⟨rk, rv, rn, rks⟩ ko kc)) V) := (by rw [hV]; exact HST)
    unfold rrV
    dsimp only
    go_wp2
    rw [← hV]
    clear hV r0 r1 r2 r3
    have j0 := blk_at HV.out.1 0 rfl
    have j1 := blk_at HV.out.1 1 rfl
    have j2 := blk_at HV.out.1 2 rfl
    have j3 := blk_at HV.out.1 3 rfl
    exact bodyPost_ret (v := rrV ⟨rk, rv, rn, rks⟩ ko kc) (by simp [results, Tryz.results71, go_sem, j0, j1, j2, j3, rrV]) rfl HV.out.2
  · skip
    by_cases h2 : kd = 2
    · subst h2
      have HS : Hid (doP 2 key val m v n i ps = ps ∧ doR 2 key val m v n i ps = tellRr 1 v n) := ⟨by unfold doP; simp, by unfold doR; simp⟩
      rw [HS.out.1, HS.out.2]
      have PUT := tellS_any w0 b c i ao ps key v n 1 W HB.out HO.out HK.out
      go_enter Tryz.func71, Tryz.ntmps71
      go_upto_region 1 with fail
      rw [← hW]
      obtain ⟨C, HCe⟩ : ∃ C, Hid (C = w.heap.size) := ⟨_, rfl⟩
      obtain ⟨pr, HPe⟩ : ∃ pr, Hid (pr = w.heap.size + 1) := ⟨_, rfl⟩
      rw [← HPe.out] at HN HP ⊢
      rw [← HCe.out] at HC d0 d1 d2 d3 ⊢
      clear hW
      go_wp2_with fail
      go_fit PUT
      rintro _ w1 ⟨ao', c', ko, kc, rfl, h2, h3, h4, h5⟩
      have HN1 : Hid (w1.heap[pr]? = some (.cells #[.int .i64 0, .string ⟨#[]⟩, .int .i64 0, .slice none 0 0] 50 (0, 0))) := h5.two.block _ _ HN.out HP.out.2.2
      have HST := post_store (w := w) h2 h3 h4 ⟨h5.old, (KWX.out.mono fun _ _ x => x.elim).trans h5.two⟩ HN1.out HP.out.1 HP.out.2.1
      clear h2 h3 h4 h5
      generalize (tellRr 1 v n) = r at *
      obtain ⟨rk, rv, rn, rks⟩ := r
      have r0 : w1.cell? ⟨pr, 0, none⟩ = some (.int .i64 0) := blk_at HN1.out 0 rfl
      have r1 : w1.cell? ⟨pr, 1, none⟩ = some (.string ⟨#[]⟩) := blk_at HN1.out 1 rfl
      have r2 : w1.cell? ⟨pr, 2, none⟩ = some (.int .i64 0) := blk_at HN1.out 2 rfl
      have r3 : w1.cell? ⟨pr, 3, none⟩ = some (.slice none 0 0) := blk_at HN1.out 3 rfl
      have z0 : w1.frozen? ⟨pr, 0, none⟩ = false := blk_free HN1.out 0
      have z1 : w1.frozen? ⟨pr, 1, none⟩ = false := blk_free HN1.out 1
      have z2 : w1.frozen? ⟨pr, 2, none⟩ = false := blk_free HN1.out 2
      have z3 : w1.frozen? ⟨pr, 3, none⟩ = false := blk_free HN1.out 3
      obtain ⟨V, hV⟩ : ∃ V, V = (((w1.setCell ⟨pr, 0, none⟩ (.int .i64 rk)).setCell ⟨pr, 1, none⟩ (.string (bs rv))).setCell ⟨pr, 2, none⟩ (.int .i64 rn)).setCell ⟨pr, 3, none⟩ (.slice ko rks.length kc) := ⟨_, rfl⟩
      have HV : Hid (V.heap[pr]? = some (.cells #[.int .i64 rk, .string (bs rv), .int .i64 rn, .slice ko rks.length kc] 50 (0, 0)) ∧ SpotPost w0 w b i ao key v n (ps) ⟨rk, rv, rn, rks⟩ (.returned (rrV ⟨rk, rv, rn, rks⟩ ko kc)) V) := (by rw [hV]; exact HST)
      unfold rrV
      dsimp only
      go_wp2
      rw [← hV]
      clear hV r0 r1 r2 r3
      have j0 := blk_at HV.out.1 0 rfl
      have j1 := blk_at HV.out.1 1 rfl
      have j2 := blk_at HV.out.1 2 rfl
      have j3 := blk_at HV.out.1 3 rfl
      exact bodyPost_ret (v := rrV ⟨rk, rv, rn, rks⟩ ko kc) (by simp [results, Tryz.results71, go_sem, j0, j1, j2, j3, rrV]) rfl HV.out.2
    · skip
      by_cases h3 : kd = 3
      · subst h3
        have HS : Hid (doP 3 key val m v n i ps = dropP n i ps ∧ doR 3 key val m v n i ps = dropRr n) := ⟨by unfold doP; simp, by unfold doR; simp⟩
        rw [HS.out.1, HS.out.2]
        have PUT := dropS_any w0 b c i ao ps key v n W HB.out HO.out HK.out hwb hl hi1
        go_enter Tryz.func71, Tryz.ntmps71
        go_upto_region 1 with fail
        rw [← hW]
        obtain ⟨C, HCe⟩ : ∃ C, Hid (C = w.heap.size) := ⟨_, rfl⟩
        obtain ⟨pr, HPe⟩ : ∃ pr, Hid (pr = w.heap.size + 1) := ⟨_, rfl⟩
        rw [← HPe.out] at HN HP ⊢
        rw [← HCe.out] at HC d0 d1 d2 d3 ⊢
        clear hW
        go_wp2_with fail
        go_fit PUT
        rintro _ w1 ⟨ao', c', ko, kc, rfl, h2, h3, h4, h5⟩
        have HN1 : Hid (w1.heap[pr]? = some (.cells #[.int .i64 0, .string ⟨#[]⟩, .int .i64 0, .slice none 0 0] 50 (0, 0))) := h5.two.block _ _ HN.out HP.out.2.2
        have HST := post_store (w := w) h2 h3 h4 ⟨h5.old, (KWX.out.mono fun _ _ x => x.elim).trans h5.two⟩ HN1.out HP.out.1 HP.out.2.1
        clear h2 h3 h4 h5
        generalize (dropRr n) = r at *
        obtain ⟨rk, rv, rn, rks⟩ := r
        have r0 : w1.cell? ⟨pr, 0, none⟩ = some (.int .i64 0) := blk_at HN1.out 0 rfl
        have r1 : w1.cell? ⟨pr, 1, none⟩ = some (.string ⟨#[]⟩) := blk_at HN1.out 1 rfl
        have r2 : w1.cell? ⟨pr, 2, none⟩ = some (.int .i64 0) := blk_at HN1.out 2 rfl
        have r3 : w1.cell? ⟨pr, 3, none⟩ = some (.slice none 0 0) := blk_at HN1.out 3 rfl
        have z0 : w1.frozen? ⟨pr, 0, none⟩ = false := blk_free HN1.out 0
        have z1 : w1.frozen? ⟨pr, 1, none⟩ = false := blk_free HN1.out 1
        have z2 : w1.frozen? ⟨pr, 2, none⟩ = false := blk_free HN1.out 2
        have z3 : w1.frozen? ⟨pr, 3, none⟩ = false := blk_free HN1.out 3
        obtain ⟨V, hV⟩ : ∃ V, V = (((w1.setCell ⟨pr, 0, none⟩ (.int .i64 rk)).setCell ⟨pr, 1, none⟩ (.string (bs rv))).setCell ⟨pr, 2, none⟩ (.int .i64 rn)).setCell ⟨pr, 3, none⟩ (.slice ko rks.length kc) := ⟨_, rfl⟩
        have HV : Hid (V.heap[pr]? = some (.cells #[.int .i64 rk, .string (bs rv), .int .i64 rn, .slice ko rks.length kc] 50 (0, 0)) ∧ SpotPost w0 w b i ao key v n (dropP n i ps) ⟨rk, rv, rn, rks⟩ (.returned (rrV ⟨rk, rv, rn, rks⟩ ko kc)) V) := (by rw [hV]; exact HST)
        unfold rrV
        dsimp only
        go_wp2
        rw [← hV]
        clear hV r0 r1 r2 r3
        have j0 := blk_at HV.out.1 0 rfl
        have j1 := blk_at HV.out.1 1 rfl
        have j2 := blk_at HV.out.1 2 rfl
        have j3 := blk_at HV.out.1 3 rfl
        exact bodyPost_ret (v := rrV ⟨rk, rv, rn, rks⟩ ko kc) (by simp [results, Tryz.results71, go_sem, j0, j1, j2, j3, rrV]) rfl HV.out.2
      · skip
        by_cases h4 : kd = 4
        · subst h4
          have HS : Hid (doP 4 key val m v n i ps = swapP key val m n i ps ∧ doR 4 key val m v n i ps = swapRr val v m n ps.length) := ⟨by unfold doP; simp, by unfold doR; simp⟩
          rw [HS.out.1, HS.out.2]
          have PUT := swapS_any w0 b c i ao ps ck val key v 4 m n W HB.out HO.out HK.out hwb hl hn0 hi0 hi1
          go_enter Tryz.func71, Tryz.ntmps71
          go_upto_region 1 with fail
          rw [← hW]
          obtain ⟨C, HCe⟩ : ∃ C, Hid (C = w.heap.size) := ⟨_, rfl⟩
          obtain ⟨pr, HPe⟩ : ∃ pr, Hid (pr = w.heap.size + 1) := ⟨_, rfl⟩
          rw [← HPe.out] at HN HP ⊢
          rw [← HCe.out] at HC d0 d1 d2 d3 ⊢
          clear hW
          go_wp2_with fail
          go_fit PUT
          rintro _ w1 ⟨ao', c', ko, kc, rfl, h2, h3, h4, h5⟩
          have HN1 : Hid (w1.heap[pr]? = some (.cells #[.int .i64 0, .string ⟨#[]⟩, .int .i64 0, .slice none 0 0] 50 (0, 0))) := h5.two.block _ _ HN.out HP.out.2.2
          have HST := post_store (w := w) h2 h3 h4 ⟨h5.old, (KWX.out.mono fun _ _ x => x.elim).trans h5.two⟩ HN1.out HP.out.1 HP.out.2.1
          clear h2 h3 h4 h5
          generalize (swapRr val v m n ps.length) = r at *
          obtain ⟨rk, rv, rn, rks⟩ := r
          have r0 : w1.cell? ⟨pr, 0, none⟩ = some (.int .i64 0) := blk_at HN1.out 0 rfl
          have r1 : w1.cell? ⟨pr, 1, none⟩ = some (.string ⟨#[]⟩) := blk_at HN1.out 1 rfl
          have r2 : w1.cell? ⟨pr, 2, none⟩ = some (.int .i64 0) := blk_at HN1.out 2 rfl
          have r3 : w1.cell? ⟨pr, 3, none⟩ = some (.slice none 0 0) := blk_at HN1.out 3 rfl
          have z0 : w1.frozen? ⟨pr, 0, none⟩ = false := blk_free HN1.out 0
          have z1 : w1.frozen? ⟨pr, 1, none⟩ = false := blk_free HN1.out 1
          have z2 : w1.frozen? ⟨pr, 2, none⟩ = false := blk_free HN1.out 2
          have z3 : w1.frozen? ⟨pr, 3, none⟩ = false := blk_free HN1.out 3
          obtain ⟨V, hV⟩ : ∃ V, V = (((w1.setCell ⟨pr, 0, none⟩ (.int .i64 rk)).setCell ⟨pr, 1, none⟩ (.string (bs rv))).setCell ⟨pr, 2, none⟩ (.int .i64 rn)).setCell ⟨pr, 3, none⟩ (.slice ko rks.length kc) := ⟨_, rfl⟩
          have HV : Hid (V.heap[pr]? = some (.cells #[.int .i64 rk, .string (bs rv), .int .i64 rn, .slice ko rks.length kc] 50 (0, 0)) ∧ SpotPost w0 w b i ao key v n (swapP key val m n i ps) ⟨rk, rv, rn, rks⟩ (.returned (rrV ⟨rk, rv, rn, rks⟩ ko kc)) V) := (by rw [hV]; exact HST)
          unfold rrV
          dsimp only
          go_wp2
          rw [← hV]
          clear hV r0 r1 r2 r3
          have j0 := blk_at HV.out.1 0 rfl
          have j1 := blk_at HV.out.1 1 rfl
          have j2 := blk_at HV.out.1 2 rfl
          have j3 := blk_at HV.out.1 3 rfl
          exact bodyPost_ret (v := rrV ⟨rk, rv, rn, rks⟩ ko kc) (by simp [results, Tryz.results71, go_sem, j0, j1, j2, j3, rrV]) rfl HV.out.2
        · skip
          by_cases h5 : kd = 5
          · subst h5
            have HS : Hid (doP 5 key val m v n i ps = putP key (v ++ val) n i ps ∧ doR 5 key val m v n i ps = putRr (v ++ val) n ps.length) := ⟨by unfold doP; simp, by unfold doR; simp⟩
            rw [HS.out.1, HS.out.2]
            have PUT := putS_any w0 b c i ao ps key v (v ++ val) n W.drew HB.out (HO.out.kept (Kept.refl _ _).drew) HK.out.drew hwb hl hn0 hi0 hi1
            go_enter Tryz.func71, Tryz.ntmps71
            go_upto_region 1 with fail
            rw [← hW]
            obtain ⟨C, HCe⟩ : ∃ C, Hid (C = w.heap.size) := ⟨_, rfl⟩
            obtain ⟨pr, HPe⟩ : ∃ pr, Hid (pr = w.heap.size + 1) := ⟨_, rfl⟩
            rw [← HPe.out] at HN HP ⊢
            rw [← HCe.out] at HC d0 d1 d2 d3 ⊢
            clear hW
            have KWX : Hid (Kept Nil w W.drew) := KW.out.drew
            have hsum : ∀ w' : World, (Op.stringOp .add (bs v) (bs val)).run Tryz.prog w' = .ok (.string (bs (v ++ val))) w' := fun w' => by rw [run_string_add_sum w' (bs v) (bs val) (by rw [bs_size, bs_size]; omega), bs_append]
            go_upto_region 11 with fail
            go_region_with (go_at_call 115; go_must (go_fit PUT; rintro _ w1 ⟨ao', c', ko, kc, rfl, h2, h3, h4, h5⟩; have HN1 : Hid (w1.heap[pr]? = some (.cells #[.int .i64 0, .string ⟨#[]⟩, .int .i64 0, .slice none 0 0] 50 (0, 0))) := h5.two.block _ _ HN.out HP.out.2.2; have HST := post_store (w := w) h2 h3 h4 ⟨h5.old, (KWX.out.mono fun _ _ x => x.elim).trans h5.two⟩ HN1.out HP.out.1 HP.out.2.1; clear h2 h3 h4 h5; generalize (putRr (v ++ val) n ps.length) = r at *; obtain ⟨rk, rv, rn, rks⟩ := r; have r0 : w1.cell? ⟨pr, 0, none⟩ = some (.int .i64 0) := blk_at HN1.out 0 rfl; have r1 : w1.cell? ⟨pr, 1, none⟩ = some (.string ⟨#[]⟩) := blk_at HN1.out 1 rfl; have r2 : w1.cell? ⟨pr, 2, none⟩ = some (.int .i64 0) := blk_at HN1.out 2 rfl; have r3 : w1.cell? ⟨pr, 3, none⟩ = some (.slice none 0 0) := blk_at HN1.out 3 rfl; have z0 : w1.frozen? ⟨pr, 0, none⟩ = false := blk_free HN1.out 0; have z1 : w1.frozen? ⟨pr, 1, none⟩ = false := blk_free HN1.out 1; have z2 : w1.frozen? ⟨pr, 2, none⟩ = false := blk_free HN1.out 2; have z3 : w1.frozen? ⟨pr, 3, none⟩ = false := blk_free HN1.out 3; obtain ⟨V, hV⟩ : ∃ V, V = (((w1.setCell ⟨pr, 0, none⟩ (.int .i64 rk)).setCell ⟨pr, 1, none⟩ (.string (bs rv))).setCell ⟨pr, 2, none⟩ (.int .i64 rn)).setCell ⟨pr, 3, none⟩ (.slice ko rks.length kc) := ⟨_, rfl⟩; have HV : Hid (V.heap[pr]? = some (.cells #[.int .i64 rk, .string (bs rv), .int .i64 rn, .slice ko rks.length kc] 50 (0, 0)) ∧ SpotPost w0 w b i ao key v n (putP key (v ++ val) n i ps) ⟨rk, rv, rn, rks⟩ (.returned (rrV ⟨rk, rv, rn, rks⟩ ko kc)) V) := (by rw [hV]; exact HST); unfold rrV; dsimp only))
            all_goals
              go_wp2
              rw [← hV]
              clear hV r0 r1 r2 r3
              have j0 := blk_at HV.out.1 0 rfl
              have j1 := blk_at HV.out.1 1 rfl
              have j2 := blk_at HV.out.1 2 rfl
              have j3 := blk_at HV.out.1 3 rfl
              exact bodyPost_ret (v := rrV ⟨rk, rv, rn, rks⟩ ko kc) (by simp [results, Tryz.results71, go_sem, j0, j1, j2, j3, rrV]) rfl HV.out.2
          · skip
            have HS : Hid (doP kd key val m v n i ps = ps ∧ doR kd key val m v n i ps = (⟨1, [], 0, (listP key m (ps.drop i)).map Pr.k⟩ : Rr)) := ⟨by unfold doP; simp [h1, h2, h3, h4, h5], by unfold doR; simp [h1, h2, h3, h4, h5]⟩
            have e1 : (kd == 1) = false := beq_eq_false_iff_ne.2 h1
            have e2 : (kd == 2) = false := beq_eq_false_iff_ne.2 h2
            have e3 : (kd == 3) = false := beq_eq_false_iff_ne.2 h3
            have e4 : (kd == 4) = false := beq_eq_false_iff_ne.2 h4
            have e5 : (kd == 5) = false := beq_eq_false_iff_ne.2 h5
            rw [HS.out.1, HS.out.2]
            have PUT := listS_any w0 b c i ao ps key v n m W HB.out HO.out HK.out hl hi0 hf
            go_enter Tryz.func71, Tryz.ntmps71
            go_upto_region 1 with fail
            rw [← hW]
            obtain ⟨C, HCe⟩ : ∃ C, Hid (C = w.heap.size) := ⟨_, rfl⟩
            obtain ⟨pr, HPe⟩ : ∃ pr, Hid (pr = w.heap.size + 1) := ⟨_, rfl⟩
            rw [← HPe.out] at HN HP ⊢
            rw [← HCe.out] at HC d0 d1 d2 d3 ⊢
            clear hW
            go_wp2_with fail
            go_fit PUT
            rintro _ w1 ⟨ao', c', ko, kc, rfl, h2, h3, h4, h5⟩
            have HN1 : Hid (w1.heap[pr]? = some (.cells #[.int .i64 0, .string ⟨#[]⟩, .int .i64 0, .slice none 0 0] 50 (0, 0))) := h5.two.block _ _ HN.out HP.out.2.2
            have HST := post_store (w := w) h2 h3 h4 ⟨h5.old, (KWX.out.mono fun _ _ x => x.elim).trans h5.two⟩ HN1.out HP.out.1 HP.out.2.1
            clear h2 h3 h4 h5
            generalize (⟨1, [], 0, (listP key m (ps.drop i)).map Pr.k⟩ : Rr) = r at *
            obtain ⟨rk, rv, rn, rks⟩ := r
            have r0 : w1.cell? ⟨pr, 0, none⟩ = some (.int .i64 0) := blk_at HN1.out 0 rfl
            have r1 : w1.cell? ⟨pr, 1, none⟩ = some (.string ⟨#[]⟩) := blk_at HN1.out 1 rfl
            have r2 : w1.cell? ⟨pr, 2, none⟩ = some (.int .i64 0) := blk_at HN1.out 2 rfl
            have r3 : w1.cell? ⟨pr, 3, none⟩ = some (.slice none 0 0) := blk_at HN1.out 3 rfl
            have z0 : w1.frozen? ⟨pr, 0, none⟩ = false := blk_free HN1.out 0
            have z1 : w1.frozen? ⟨pr, 1, none⟩ = false := blk_free HN1.out 1
            have z2 : w1.frozen? ⟨pr, 2, none⟩ = false := blk_free HN1.out 2
            have z3 : w1.frozen? ⟨pr, 3, none⟩ = false := blk_free HN1.out 3
            obtain ⟨V, hV⟩ : ∃ V, V = (((w1.setCell ⟨pr, 0, none⟩ (.int .i64 rk)).setCell ⟨pr, 1, none⟩ (.string (bs rv))).setCell ⟨pr, 2, none⟩ (.int .i64 rn)).setCell ⟨pr, 3, none⟩ (.slice ko rks.length kc) := ⟨_, rfl⟩
            have HV : Hid (V.heap[pr]? = some (.cells #[.int .i64 rk, .string (bs rv), .int .i64 rn, .slice ko rks.length kc] 50 (0, 0)) ∧ SpotPost w0 w b i ao key v n (ps) ⟨rk, rv, rn, rks⟩ (.returned (rrV ⟨rk, rv, rn, rks⟩ ko kc)) V) := (by rw [hV]; exact HST)
            unfold rrV
            dsimp only
            go_wp2
            rw [← hV]
            clear hV r0 r1 r2 r3
            have j0 := blk_at HV.out.1 0 rfl
            have j1 := blk_at HV.out.1 1 rfl
            have j2 := blk_at HV.out.1 2 rfl
            have j3 := blk_at HV.out.1 3 rfl
            exact bodyPost_ret (v := rrV ⟨rk, rv, rn, rks⟩ ko kc) (by simp [results, Tryz.results71, go_sem, j0, j1, j2, j3, rrV]) rfl HV.out.2

end Go.Proofs.YtflnjlbafchnaaaGreatDoor
