/-
  Joined: WKvY.
-/
import Derived.Test.YtflnjlbafchnaaaGreatDoorQ09
/-
  kv.Apply leaves no list in its result, unless it lists.
-/
namespace Go.Proofs.YtflnjlbafchnaaaGreatDoor
open Go.RowKit

def SpotPostN (w0 w : World) (b i : Nat) (ao : Option Addr) (key v : List UInt8) (n : Int) (ps : List Pr) (r : Rr) (e : Ending) (w' : World) : Prop :=
  ∃ ao' c' ko kc, e = .returned (rrV r ko kc) ∧ SpotAt w' b key v n ao' ps.length c' i ∧ OwnP w0.heap.size w' ao' c' ps ∧ (ko = none ∧ kc = 0 ∧ r.ks = []) ∧ KK w0 w b ao w'
theorem putSN_any (w0 : World) (b c i : Nat) (ao : Option Addr) (ps : List Pr) (key v x : List UInt8) (n : Int) (w : World) (hb : SpotAt w b key v n ao ps.length c i) (hO : OwnP w0.heap.size w ao c ps) (hK : Kept Nil w0 w) (hwb : w0.heap.size ≤ b) (hl : ps.length ≤ 32) (hn0 : 0 ≤ n) (hi0 : i ≤ ps.length) (hi1 : n ≠ 0 → i < ps.length) :
    Calls Tryz.prog 115 #[.pointer (some ⟨b, 0, none⟩), .string (bs x)] w (SpotPostN w0 w b i ao key v n (putP key x n i ps) (putRr x n ps.length)) :=
  (put_any w0 b c i ao ps key v x n w hb hO hK hwb hl hn0 (fun _ => hi0) hi1).mono fun e w' ⟨h1, ao', c', h2, h3, h4⟩ => ⟨ao', c', none, 0, by rw [h1, (putR_is x n ps.length).1], h2, h3, ⟨rfl, rfl, (putR_is x n ps.length).2⟩, h4⟩
theorem tellSN_any (w0 : World) (b c i : Nat) (ao : Option Addr) (ps : List Pr) (key v : List UInt8) (n kd : Int) (w : World) (hb : SpotAt w b key v n ao ps.length c i) (hO : OwnP w0.heap.size w ao c ps) (hK : Kept Nil w0 w) :
    Calls Tryz.prog 116 #[.pointer (some ⟨b, 0, none⟩), .int .i64 kd] w (SpotPostN w0 w b i ao key v n ps (tellRr kd v n)) :=
  (tell_any b ps.length c key v n i kd ao w hb).mono fun e w' ⟨h1, h2⟩ => ⟨ao, c, none, 0, by rw [h1, (tellR_is kd v n).1], h2.block _ _ hb (fun x => x.elim), hO.kept h2, ⟨rfl, rfl, (tellR_is kd v n).2⟩, (KK.start hK).then h2⟩
theorem dropSN_any (w0 : World) (b c i : Nat) (ao : Option Addr) (ps : List Pr) (key v : List UInt8) (n : Int) (w : World) (hb : SpotAt w b key v n ao ps.length c i) (hO : OwnP w0.heap.size w ao c ps) (hK : Kept Nil w0 w) (hwb : w0.heap.size ≤ b) (hl : ps.length ≤ 32) (hi1 : n ≠ 0 → i < ps.length) :
    Calls Tryz.prog 117 #[.pointer (some ⟨b, 0, none⟩)] w (SpotPostN w0 w b i ao key v n (dropP n i ps) (dropRr n)) :=
  (drop_any w0 b c i ao ps key v n w hb hO hK hwb hl hi1).mono fun e w' ⟨h1, ao', c', h2, h3, h4⟩ => ⟨ao', c', none, 0, by rw [h1, (dropR_is n).1], h2, h3, ⟨rfl, rfl, (dropR_is n).2⟩, h4⟩
theorem post_storeN {w0 w w1 : World} {b i pr c' kc : Nat} {ao ao' ko : Option Addr} {key v : List UInt8} {n : Int} {ps : List Pr} {r : Rr} {x0 x1 x2 x3 : Value} (h2 : SpotAt w1 b key v n ao' ps.length c' i) (h3 : OwnP w0.heap.size w1 ao' c' ps) (h4 : ko = none ∧ kc = 0 ∧ r.ks = []) (h5 : KK w0 w b ao w1) (HN : w1.heap[pr]? = some (.cells #[x0, x1, x2, x3] 50 (0, 0))) (hp : w0.heap.size ≤ pr) (hq : New w pr) :
    (set4 w1 pr (.int .i64 r.kd) (.string (bs r.v)) (.int .i64 r.n) (.slice ko r.ks.length kc)).heap[pr]? = some (.cells #[.int .i64 r.kd, .string (bs r.v), .int .i64 r.n, .slice ko r.ks.length kc] 50 (0, 0)) ∧ SpotPostN w0 w b i ao key v n ps r (.returned (rrV r ko kc)) (set4 w1 pr (.int .i64 r.kd) (.string (bs r.v)) (.int .i64 r.n) (.slice ko r.ks.length kc)) := by
  obtain ⟨g1, g2, g3, g4⟩ := set4_all HN h2 h3 h5 hp hq (.int .i64 r.kd) (.string (bs r.v)) (.int .i64 r.n) (.slice ko r.ks.length kc)
  exact ⟨g1, ao', c', ko, kc, rfl, g2, g3, h4, g4⟩

set_option maxRecDepth 100000 in
set_option maxHeartbeats 2000000 in
theorem swapSN_any (w0 : World) (b c i : Nat) (ao : Option Addr) (ps : List Pr) (ck val key v : List UInt8) (kd m n : Int) (w : World) (hb : SpotAt w b key v n ao ps.length c i) (hO : OwnP w0.heap.size w ao c ps) (hK : Kept Nil w0 w) (hwb : w0.heap.size ≤ b) (hl : ps.length ≤ 32) (hn0 : 0 ≤ n) (hi0 : i ≤ ps.length) (hi1 : n ≠ 0 → i < ps.length) :
    Calls Tryz.prog 118 #[.pointer (some ⟨b, 0, none⟩), .agg #[.int .i64 kd, .string (bs ck), .string (bs val), .int .i64 m]] w (SpotPostN w0 w b i ao key v n (swapP key val m n i ps) (swapRr val v m n ps.length)) := by
  obtain ⟨W, hW⟩ : ∃ W, W = (w.alloc (.cells #[.int .i64 kd, .string (bs ck), .string (bs val), .int .i64 m] 31)).alloc (.cells #[.int .i64 0, .string ⟨#[]⟩, .int .i64 0, .slice none 0 0] 50) := ⟨_, rfl⟩
  have KW : Hid (Kept Nil w W) := by rw [hW]; exact ((Kept.refl _ _).alloc _).alloc _
  have HB : Hid (SpotAt W b key v n ao ps.length c i) := KW.out.block _ _ hb (fun x => x.elim)
  have HO : Hid (OwnP w0.heap.size W ao c ps) := hO.kept KW.out
  have HK : Hid (Kept Nil w0 W) := hK.trans KW.out
  have HC : Hid (W.heap[w.heap.size]? = some (.cells #[.int .i64 kd, .string (bs ck), .string (bs val), .int .i64 m] 31 (0, 0))) := by rw [hW]; exact blk_past (blk_new _ _) _
  have HN : Hid (W.heap[w.heap.size + 1]? = some (.cells #[.int .i64 0, .string ⟨#[]⟩, .int .i64 0, .slice none 0 0] 50 (0, 0))) := by
    rw [hW]
    have := blk_new (w.alloc (.cells #[.int .i64 kd, .string (bs ck), .string (bs val), .int .i64 m] 31)) (.cells #[.int .i64 0, .string ⟨#[]⟩, .int .i64 0, .slice none 0 0] 50)
    show _ = _
    simpa using this
  have HP : Hid (w0.heap.size ≤ w.heap.size + 1 ∧ New w (w.heap.size + 1) ∧ ¬ Two b ao (w.heap.size + 1) (.cells #[.int .i64 0, .string ⟨#[]⟩, .int .i64 0, .slice none 0 0] 50 (0, 0))) := ⟨by have := hK.size; omega, Nat.le_succ _, fun x => by
    rcases x with e | ⟨a, ha, e⟩
    · have := lt_of_block hb; omega
    · obtain ⟨g, cs, e0, _, hblk, _⟩ := hO.block (by rw [ha]; simp)
      rw [ha] at e0
      cases e0
      have := lt_of_block hblk
      simp only at e
      omega⟩
  have q1 : W.cell? ⟨b, 1, none⟩ = some (.string (bs v)) := blk_at HB.out 1 rfl
  have q2 : W.cell? ⟨b, 2, none⟩ = some (.int .i64 n) := blk_at HB.out 2 rfl
  have d0 : W.cell? ⟨w.heap.size, 0, none⟩ = some (.int .i64 kd) := blk_at HC.out 0 rfl
  have d1 : W.cell? ⟨w.heap.size, 1, none⟩ = some (.string (bs ck)) := blk_at HC.out 1 rfl
  have d2 : W.cell? ⟨w.heap.size, 2, none⟩ = some (.string (bs val)) := blk_at HC.out 2 rfl
  have d3 : W.cell? ⟨w.heap.size, 3, none⟩ = some (.int .i64 m) := blk_at HC.out 3 rfl
  clear hb hO hK
  have KWX : Hid (Kept Nil w W.drew) := KW.out.drew
  by_cases hm : n = m
  · subst hm
    have HS : Hid (swapP key val n n i ps = putP key val n i ps ∧ swapRr val v n n ps.length = putRr val n ps.length) := ⟨if_pos rfl, if_pos rfl⟩
    rw [HS.out.1, HS.out.2]
    have PUT := putSN_any w0 b c i ao ps key v val n W.drew HB.out (HO.out.kept (Kept.refl _ _).drew) HK.out.drew hwb hl hn0 hi0 hi1
    go_enter Tryz.func118, Tryz.ntmps118
    go_upto_region 1 with fail
    rw [← hW]
    obtain ⟨C, HCe⟩ : ∃ C, Hid (C = w.heap.size) := ⟨_, rfl⟩
    obtain ⟨pr, HPe⟩ : ∃ pr, Hid (pr = w.heap.size + 1) := ⟨_, rfl⟩
    rw [← HPe.out] at HN HP ⊢
    rw [← HCe.out] at HC d0 d1 d2 d3 ⊢
    clear hW
    go_region
    go_wp2_with fail
    go_fit PUT
    rintro _ w1 ⟨ao', c', ko, kc, rfl, h2, h3, h4, h5⟩
    have HN1 : Hid (w1.heap[pr]? = some (.cells #[.int .i64 0, .string ⟨#[]⟩, .int .i64 0, .slice none 0 0] 50 (0, 0))) := h5.two.block _ _ HN.out HP.out.2.2
    have HST := post_storeN (w := w) h2 h3 h4 ⟨h5.old, (KWX.out.mono fun _ _ x => x.elim).trans h5.two⟩ HN1.out HP.out.1 HP.out.2.1
    clear h2 h3 h4 h5
    generalize (putRr val n ps.length) = r at *
    obtain ⟨rk, rv, rn, rks⟩ := r
    have r0 : w1.cell? ⟨pr, 0, none⟩ = some (.int .i64 0) := blk_at HN1.out 0 rfl
    have r1 : w1.cell? ⟨pr, 1, none⟩ = some (.string ⟨#[]⟩) := blk_at HN1.out 1 rfl
    have r2 : w1.cell? ⟨pr, 2, none⟩ = some (.int .i64 0) := blk_at HN1.out 2 rfl
    have r3 : w1.cell? ⟨pr, 3, none⟩ = some (.slice none 0 0) := blk_at HN1.out 3 rfl
    have z0 : w1.frozen? ⟨pr, 0, none⟩ = false := blk_free HN1.out 0
    have z1 : w1.frozen? ⟨pr, 1, none⟩ = false := blk_free HN1.out 1
    have z2 : w1.frozen? ⟨pr, 2, none⟩ = false := blk_free HN1.out 2
    have z3 : w1.frozen? ⟨pr, 3, none⟩ = false := blk_free HN1.out 3
    obtain ⟨V, hV⟩ : ∃ V, V = (((w1.setCell ⟨pr, 0, none⟩ (.int .i64 rk)).setCell ⟨pr, 1, none⟩ (.string (bs rv))).setCell ⟨pr, 2, none⟩ (.int .i64 rn)).setCell ⟨pr, 3, none⟩ (.slice ko rks.length kc) := ⟨_, rfl⟩
    have HV : Hid (V.heap[pr]? = some (.cells #[.int .i64 rk, .string (bs rv), .int .i64 rn, .slice ko rks.length kc] 50 (0, 0)) ∧ SpotPostN w0 w b i ao key v n (putP key val n i ps) ⟨rk, rv, rn, rks⟩ (.returned (rrV ⟨rk, rv, rn, rks⟩ ko kc)) V) := (by rw [hV]; exact HST)
    unfold rrV
    dsimp only
    go_wp2
    rw [← hV]
    clear hV r0 r1 r2 r3
    have j0 := blk_at HV.out.1 0 rfl
    have j1 := blk_at HV.out.1 1 rfl
    have j2 := blk_at HV.out.1 2 rfl
    have j3 := blk_at HV.out.1 3 rfl
    exact bodyPost_ret (v := rrV ⟨rk, rv, rn, rks⟩ ko kc) (by simp [results, Tryz.results118, go_sem, j0, j1, j2, j3, rrV]) rfl HV.out.2
  · have HS : Hid (swapP key val m n i ps = ps ∧ swapRr val v m n ps.length = tellRr 3 v n) := ⟨if_neg hm, if_neg hm⟩
    have hmb : (n == m) = false := beq_eq_false_iff_ne.2 hm
    rw [HS.out.1, HS.out.2]
    have PUT := tellSN_any w0 b c i ao ps key v n 3 W.drew HB.out (HO.out.kept (Kept.refl _ _).drew) HK.out.drew
    go_enter Tryz.func118, Tryz.ntmps118
    go_upto_region 1 with fail
    rw [← hW]
    obtain ⟨C, HCe⟩ : ∃ C, Hid (C = w.heap.size) := ⟨_, rfl⟩
    obtain ⟨pr, HPe⟩ : ∃ pr, Hid (pr = w.heap.size + 1) := ⟨_, rfl⟩
    rw [← HPe.out] at HN HP ⊢
    rw [← HCe.out] at HC d0 d1 d2 d3 ⊢
    clear hW
    go_region
    go_wp2_with fail
    go_fit PUT
    rintro _ w1 ⟨ao', c', ko, kc, rfl, h2, h3, h4, h5⟩
    have HN1 : Hid (w1.heap[pr]? = some (.cells #[.int .i64 0, .string ⟨#[]⟩, .int .i64 0, .slice none 0 0] 50 (0, 0))) := h5.two.block _ _ HN.out HP.out.2.2
    have HST := post_storeN (w := w) h2 h3 h4 ⟨h5.old, (KWX.out.mono fun _ _ x => x.elim).trans h5.two⟩ HN1.out HP.out.1 HP.out.2.1
    clear h2 h3 h4 h5
    generalize (tellRr 3 v n) = r at *
    obtain ⟨rk, rv, rn, rks⟩ := r
    have r0 : w1.cell? ⟨pr, 0, none⟩ = some (.int .i64 0) := blk_at HN1.out 0 rfl
    have r1 : w1.cell? ⟨pr, 1, none⟩ = some (.string ⟨#[]⟩) := blk_at HN1.out 1 rfl
    have r2 : w1.cell? ⟨pr, 2, none⟩ = some (.int .i64 0) := blk_at HN1.out 2 rfl
    have r3 : w1.cell? ⟨pr, 3, none⟩ = some (.slice none 0 0) := blk_at HN1.out 3 rfl
    have z0 : w1.frozen? ⟨pr, 0, none⟩ = false := blk_free HN1.out 0
    have z1 : w1.frozen? ⟨pr, 1, none⟩ = false := blk_free HN1.out 1
    have z2 : w1.frozen? ⟨pr, 2, none⟩ = false := blk_free HN1.out 2
    have z3 : w1.frozen? ⟨pr, 3, none⟩ = false := blk_free HN1.out 3
    obtain ⟨V, hV⟩ : ∃ V, V = (((w1.setCell ⟨pr, 0, none⟩ (.int .i64 rk)).setCell ⟨pr, 1, none⟩ (.string (bs rv))).setCell ⟨pr, 2, none⟩ (.int .i64 rn)).setCell ⟨pr, 3, none⟩ (.slice ko rks.length kc) := ⟨_, rfl⟩
    have HV : Hid (V.heap[pr]? = some (.cells #[.int .i64 rk, .string (bs rv), .int .i64 rn, .slice ko rks.length kc] 50 (0, 0)) ∧ SpotPostN w0 w b i ao key v n (ps) ⟨rk, rv, rn, rks⟩ (.returned (rrV ⟨rk, rv, rn, rks⟩ ko kc)) V) := (by rw [hV]; exact HST)
    unfold rrV
    dsimp only
    go_wp2
    rw [← hV]
    clear hV r0 r1 r2 r3
    have j0 := blk_at HV.out.1 0 rfl
    have j1 := blk_at HV.out.1 1 rfl
    have j2 := blk_at HV.out.1 2 rfl
    have j3 := blk_at HV.out.1 3 rfl
    exact bodyPost_ret (v := rrV ⟨rk, rv, rn, rks⟩ ko kc) (by simp [results, Tryz.results118, go_sem, j0, j1, j2, j3, rrV]) rfl HV.out.2

set_option maxRecDepth 100000 in
set_option maxHeartbeats 4000000 in
theorem doSN_any (w0 : World) (b c i : Nat) (ao : Option Addr) (ps : List Pr) (ck val key v : List UInt8) (kd m n : Int) (w : World) (hb : SpotAt w b key v n ao ps.length c i) (hO : OwnP w0.heap.size w ao c ps) (hK : Kept Nil w0 w) (hwb : w0.heap.size ≤ b) (hl : ps.length ≤ 32) (hn0 : 0 ≤ n) (hi0 : i ≤ ps.length) (hi1 : n ≠ 0 → i < ps.length) (hvs : v.length + val.length ≤ 1000000) (hk5 : 1 ≤ kd ∧ kd ≤ 5) :
    Calls Tryz.prog 71 #[.pointer (some ⟨b, 0, none⟩), .agg #[.int .i64 kd, .string (bs ck), .string (bs val), .int .i64 m]] w (SpotPostN w0 w b i ao key v n (doP kd key val m v n i ps) (doR kd key val m v n i ps)) := by
  obtain ⟨W, hW⟩ : ∃ W, W = (w.alloc (.cells #[.int .i64 kd, .string (bs ck), .string (bs val), .int .i64 m] 31)).alloc (.cells #[.int .i64 0, .string ⟨#[]⟩, .int .i64 0, .slice none 0 0] 50) := ⟨_, rfl⟩
  have KW : Hid (Kept Nil w W) := by rw [hW]; exact ((Kept.refl _ _).alloc _).alloc _
  have HB : Hid (SpotAt W b key v n ao ps.length c i) := KW.out.block _ _ hb (fun x => x.elim)
  have HO : Hid (OwnP w0.heap.size W ao c ps) := hO.kept KW.out
  have HK : Hid (Kept Nil w0 W) := hK.trans KW.out
  have HC : Hid (W.heap[w.heap.size]? = some (.cells #[.int .i64 kd, .string (bs ck), .string (bs val), .int .i64 m] 31 (0, 0))) := by rw [hW]; exact blk_past (blk_new _ _) _
  have HN : Hid (W.heap[w.heap.size + 1]? = some (.cells #[.int .i64 0, .string ⟨#[]⟩, .int .i64 0, .slice none 0 0] 50 (0, 0))) := by
    rw [hW]
    have := blk_new (w.alloc (.cells #[.int .i64 kd, .string (bs ck), .string (bs val), .int .i64 m] 31)) (.cells #[.int .i64 0, .string ⟨#[]⟩, .int .i64 0, .slice none 0 0] 50)
    show _ = _
    simpa using this
  have HP : Hid (w0.heap.size ≤ w.heap.size + 1 ∧ New w (w.heap.size + 1) ∧ ¬ Two b ao (w.heap.size + 1) (.cells #[.int .i64 0, .string ⟨#[]⟩, .int .i64 0, .slice none 0 0] 50 (0, 0))) := ⟨by have := hK.size; omega, Nat.le_succ _, fun x => by
    rcases x with e | ⟨a, ha, e⟩
    · have := lt_of_block hb; omega
    · obtain ⟨g, cs, e0, _, hblk, _⟩ := hO.block (by rw [ha]; simp)
      rw [ha] at e0
      cases e0
      have := lt_of_block hblk
      simp only at e
      omega⟩
  have q1 : W.cell? ⟨b, 1, none⟩ = some (.string (bs v)) := blk_at HB.out 1 rfl
  have q2 : W.cell? ⟨b, 2, none⟩ = some (.int .i64 n) := blk_at HB.out 2 rfl
  have d0 : W.cell? ⟨w.heap.size, 0, none⟩ = some (.int .i64 kd) := blk_at HC.out 0 rfl
  have d1 : W.cell? ⟨w.heap.size, 1, none⟩ = some (.string (bs ck)) := blk_at HC.out 1 rfl
  have d2 : W.cell? ⟨w.heap.size, 2, none⟩ = some (.string (bs val)) := blk_at HC.out 2 rfl
  have d3 : W.cell? ⟨w.heap.size, 3, none⟩ = some (.int .i64 m) := blk_at HC.out 3 rfl
  clear hb hO hK
  have KWX : Hid (Kept Nil w W) := KW.out
  by_cases h1 : kd = 1
  · subst h1
    have HS : Hid (doP 1 key val m v n i ps = putP key val n i ps ∧ doR 1 key val m v n i ps = putRr val n ps.length) := ⟨by unfold doP; simp, by unfold doR; simp⟩
    rw [HS.out.1, HS.out.2]
    have PUT := putSN_any w0 b c i ao ps key v val n W HB.out HO.out HK.out hwb hl hn0 hi0 hi1
    go_enter Tryz.func71, Tryz.ntmps71
    go_upto_region 1 with fail
    rw [← hW]
    obtain ⟨C, HCe⟩ : ∃ C, Hid (C = w.heap.size) := ⟨_, rfl⟩
    obtain ⟨pr, HPe⟩ : ∃ pr, Hid (pr = w.heap.size + 1) := ⟨_, rfl⟩
    rw [← HPe.out] at HN HP ⊢
    rw [← HCe.out] at HC d0 d1 d2 d3 ⊢
    clear hW
    go_wp2_with fail
    go_fit PUT
    rintro _ w1 ⟨ao', c', ko, kc, rfl, h2, h3, h4, h5⟩
    have HN1 : Hid (w1.heap[pr]? = some (.cells #[.int .i64 0, .string ⟨#[]⟩, .int .i64 0, .slice none 0 0] 50 (0, 0))) := h5.two.block _ _ HN.out HP.out.2.2
    have HST := post_storeN (w := w) h2 h3 h4 ⟨h5.old, (KWX.out.mono fun _ _ x => x.elim).trans h5.two⟩ HN1.out HP.out.1 HP.out.2.1
    clear h2 h3 h4 h5
    generalize (putRr val n ps.length) = r at *
    obtain ⟨rk, rv, rn, rks⟩ := r
    have r0 : w1.cell? ⟨pr, 0, none⟩ = some (.int .i64 0) := blk_at HN1.out 0 rfl
    have r1 : w1.cell? ⟨pr, 1, none⟩ = some (.string ⟨#[]⟩) := blk_at HN1.out 1 rfl
    have r2 : w1.cell? ⟨pr, 2, none⟩ = some (.int .i64 0) := blk_at HN1.out 2 rfl
    have r3 : w1.cell? ⟨pr, 3, none⟩ = some (.slice none 0 0) := blk_at HN1.out 3 rfl
    have z0 : w1.frozen? ⟨pr, 0, none⟩ = false := blk_free HN1.out 0
    have z1 : w1.frozen? ⟨pr, 1, none⟩ = false := blk_free HN1.out 1
    have z2 : w1.frozen? ⟨pr, 2, none⟩ = false := blk_free HN1.out 2
    have z3 : w1.frozen? ⟨pr, 3, none⟩ = false := blk_free HN1.out 3
    obtain ⟨V, hV⟩ : ∃ V, V = (((w1.setCell ⟨pr, 0, none⟩ (.int .i64 rk)).setCell ⟨pr, 1, none⟩ (.string (bs rv))).setCell ⟨pr, 2, none⟩ (.int .i64 rn)).setCell ⟨pr, 3, none⟩ (.slice ko rks.length kc) := ⟨_, rfl⟩
    have HV : Hid (V.heap[pr]? = some (.cells #[.int .i64 rk, .string (bs rv), .int .i64 rn, .slice ko rks.length kc] 50 (0, 0)) ∧ SpotPostN w0 w b i ao key v n (putP key val n i ps) ⟨rk, rv, rn, rks⟩ (.returned (rrV ⟨rk, rv, rn, rks⟩ ko kc)) V) := (by rw [hV]; exact HST)
    unfold rrV
    dsimp only
    go_wp2
    rw [← hV]
    clear hV r0 r1 r2 r3
    have j0 := blk_at HV.out.1 0 rfl
    have j1 := blk_at HV.out.1 1 rfl
    have j2 := blk_at HV.out.1 2 rfl
    have j3 := blk_at HV.out.1 3 rfl
    exact bodyPost_ret (v := rrV ⟨rk, rv, rn, rks⟩ ko kc) (by simp [results, Tryz.results71, go_sem, j0, j1, j2, j3, rrV]) rfl HV.out.2
  · skip
    by_cases h2 : kd = 2
    · subst h2
      have HS : Hid (doP 2 key val m v n i ps = ps ∧ doR 2 key val m v n i ps = tellRr 1 v n) := ⟨by unfold doP; simp, by unfold doR; simp⟩
      rw [HS.out.1, HS.out.2]
      have PUT := tellSN_any w0 b c i ao ps key v n 1 W HB.out HO.out HK.out
      go_enter Tryz.func71, Tryz.ntmps71
      go_upto_region 1 with fail
      rw [← hW]
      obtain ⟨C, HCe⟩ : ∃ C, Hid (C = w.heap.size) := ⟨_, rfl⟩
      obtain ⟨pr, HPe⟩ : ∃ pr, Hid (pr = w.heap.size + 1) := ⟨_, rfl⟩
      rw [← HPe.out] at HN HP ⊢
      rw [← HCe.out] at HC d0 d1 d2 d3 ⊢
      clear hW
      go_wp2_with fail
      go_fit PUT
      rintro _ w1 ⟨ao', c', ko, kc, rfl, h2, h3, h4, h5⟩
      have HN1 : Hid (w1.heap[pr]? = some (.cells #[.int .i64 0, .string ⟨#[]⟩, .int .i64 0, .slice none 0 0] 50 (0, 0))) := h5.two.block _ _ HN.out HP.out.2.2
      have HST := post_storeN (w := w) h2 h3 h4 ⟨h5.old, (KWX.out.mono fun _ _ x => x.elim).trans h5.two⟩ HN1.out HP.out.1 HP.out.2.1
      clear h2 h3 h4 h5
      generalize (tellRr 1 v n) = r at *
      obtain ⟨rk, rv, rn, rks⟩ := r
      have r0 : w1.cell? ⟨pr, 0, none⟩ = some (.int .i64 0) := blk_at HN1.out 0 rfl
      have r1 : w1.cell? ⟨pr, 1, none⟩ = some (.string ⟨#[]⟩) := blk_at HN1.out 1 rfl
      have r2 : w1.cell? ⟨pr, 2, none⟩ = some (.int .i64 0) := blk_at HN1.out 2 rfl
      have r3 : w1.cell? ⟨pr, 3, none⟩ = some (.slice none 0 0) := blk_at HN1.out 3 rfl
      have z0 : w1.frozen? ⟨pr, 0, none⟩ = false := blk_free HN1.out 0
      have z1 : w1.frozen? ⟨pr, 1, none⟩ = false := blk_free HN1.out 1
      have z2 : w1.frozen? ⟨pr, 2, none⟩ = false := blk_free HN1.out 2
      have z3 : w1.frozen? ⟨pr, 3, none⟩ = false := blk_free HN1.out 3
      obtain ⟨V, hV⟩ : ∃ V, V = (((w1.setCell ⟨pr, 0, none⟩ (.int .i64 rk)).setCell ⟨pr, 1, none⟩ (.string (bs rv))).setCell ⟨pr, 2, none⟩ (.int .i64 rn)).setCell ⟨pr, 3, none⟩ (.slice ko rks.length kc) := ⟨_, rfl⟩
      have HV : Hid (V.heap[pr]? = some (.cells #[.int .i64 rk, .string (bs rv), .int .i64 rn, .slice ko rks.length kc] 50 (0, 0)) ∧ SpotPostN w0 w b i ao key v n (ps) ⟨rk, rv, rn, rks⟩ (.returned (rrV ⟨rk, rv, rn, rks⟩ ko kc)) V) := (by rw [hV]; exact HST)
      unfold rrV
      dsimp only
      go_wp2
      rw [← hV]
      clear hV r0 r1 r2 r3
      have j0 := blk_at HV.out.1 0 rfl
      have j1 := blk_at HV.out.1 1 rfl
      have j2 := blk_at HV.out.1 2 rfl
      have j3 := blk_at HV.out.1 3 rfl
      exact bodyPost_ret (v := rrV ⟨rk, rv, rn, rks⟩ ko kc) (by simp [results, Tryz.results71, go_sem, j0, j1, j2, j3, rrV]) rfl HV.out.2
    · skip
      by_cases h3 : kd = 3
      · subst h3
        have HS : Hid (doP 3 key val m v n i ps = dropP n i ps ∧ doR 3 key val m v n i ps = dropRr n) := ⟨by unfold doP; simp, by unfold doR; simp⟩
        rw [HS.out.1, HS.out.2]
        have PUT := dropSN_any w0 b c i ao ps key v n W HB.out HO.out HK.out hwb hl hi1
        go_enter Tryz.func71, Tryz.ntmps71
        go_upto_region 1 with fail
        rw [← hW]
        obtain ⟨C, HCe⟩ : ∃ C, Hid (C = w.heap.size) := ⟨_, rfl⟩
        obtain ⟨pr, HPe⟩ : ∃ pr, Hid (pr = w.heap.size + 1) := ⟨_, rfl⟩
        rw [← HPe.out] at HN HP ⊢
        rw [← HCe.out] at HC d0 d1 d2 d3 ⊢
        clear hW
        go_wp2_with fail
        go_fit PUT
        rintro _ w1 ⟨ao', c', ko, kc, rfl, h2, h3, h4, h5⟩
        have HN1 : Hid (w1.heap[pr]? = some (.cells #[.int .i64 0, .string ⟨#[]⟩, .int .i64 0, .slice none 0 0] 50 (0, 0))) := h5.two.block _ _ HN.out HP.out.2.2
        have HST := post_storeN (w := w) h2 h3 h4 ⟨h5.old, (KWX.out.mono fun _ _ x => x.elim).trans h5.two⟩ HN1.out HP.out.1 HP.out.2.1
        clear h2 h3 h4 h5
        generalize (dropRr n) = r at *
        obtain ⟨rk, rv, rn, rks⟩ := r
        have r0 : w1.cell? ⟨pr, 0, none⟩ = some (.int .i64 0) := blk_at HN1.out 0 rfl
        have r1 : w1.cell? ⟨pr, 1, none⟩ = some (.string ⟨#[]⟩) := blk_at HN1.out 1 rfl
        have r2 : w1.cell? ⟨pr, 2, none⟩ = some (.int .i64 0) := blk_at HN1.out 2 rfl
        have r3 : w1.cell? ⟨pr, 3, none⟩ = some (.slice none 0 0) := blk_at HN1.out 3 rfl
        have z0 : w1.frozen? ⟨pr, 0, none⟩ = false := blk_free HN1.out 0
        have z1 : w1.frozen? ⟨pr, 1, none⟩ = false := blk_free HN1.out 1
        have z2 : w1.frozen? ⟨pr, 2, none⟩ = false := blk_free HN1.out 2
        have z3 : w1.frozen? ⟨pr, 3, none⟩ = false := blk_free HN1.out 3
        obtain ⟨V, hV⟩ : ∃ V, V = (((w1.setCell ⟨pr, 0, none⟩ (.int .i64 rk)).setCell ⟨pr, 1, none⟩ (.string (bs rv))).setCell ⟨pr, 2, none⟩ (.int .i64 rn)).setCell ⟨pr, 3, none⟩ (.slice ko rks.length kc) := ⟨_, rfl⟩
        have HV : Hid (V.heap[pr]? = some (.cells #[.int .i64 rk, .string (bs rv), .int .i64 rn, .slice ko rks.length kc] 50 (0, 0)) ∧ SpotPostN w0 w b i ao key v n (dropP n i ps) ⟨rk, rv, rn, rks⟩ (.returned (rrV ⟨rk, rv, rn, rks⟩ ko kc)) V) := (by rw [hV]; exact HST)
        unfold rrV
        dsimp only
        go_wp2
        rw [← hV]
        clear hV r0 r1 r2 r3
        have j0 := blk_at HV.out.1 0 rfl
        have j1 := blk_at HV.out.1 1 rfl
        have j2 := blk_at HV.out.1 2 rfl
        have j3 := blk_at HV.out.1 3 rfl
        exact bodyPost_ret (v := rrV ⟨rk, rv, rn, rks⟩ ko kc) (by simp [results, Tryz.results71, go_sem, j0, j1, j2, j3, rrV]) rfl HV.out.2
      · skip
        by_cases h4 : kd = 4
        · subst h4
          have HS : Hid (doP 4 key val m v n i ps = swapP key val m n i ps ∧ doR 4 key val m v n i ps = swapRr val v m n ps.length) := ⟨by unfold doP; simp, by unfold doR; simp⟩
          rw [HS.out.1, HS.out.2]
          have PUT := swapSN_any w0 b c i ao ps ck val key v 4 m n W HB.out HO.out HK.out hwb hl hn0 hi0 hi1
          go_enter Tryz.func71, Tryz.ntmps71
          go_upto_region 1 with fail
          rw [← hW]
          obtain ⟨C, HCe⟩ : ∃ C, Hid (C = w.heap.size) := ⟨_, rfl⟩
          obtain ⟨pr, HPe⟩ : ∃ pr, Hid (pr = w.heap.size + 1) := ⟨_, rfl⟩
          rw [← HPe.out] at HN HP ⊢
          rw [← HCe.out] at HC d0 d1 d2 d3 ⊢
          clear hW
          go_wp2_with fail
          go_fit PUT
          rintro _ w1 ⟨ao', c', ko, kc, rfl, h2, h3, h4, h5⟩
          have HN1 : Hid (w1.heap[pr]? = some (.cells #[.int .i64 0, .string ⟨#[]⟩, .int .i64 0, .slice none 0 0] 50 (0, 0))) := h5.two.block _ _ HN.out HP.out.2.2
          have HST := post_storeN (w := w) h2 h3 h4 ⟨h5.old, (KWX.out.mono fun _ _ x => x.elim).trans h5.two⟩ HN1.out HP.out.1 HP.out.2.1
          clear h2 h3 h4 h5
          generalize (swapRr val v m n ps.length) = r at *
          obtain ⟨rk, rv, rn, rks⟩ := r
          have r0 : w1.cell? ⟨pr, 0, none⟩ = some (.int .i64 0) := blk_at HN1.out 0 rfl
          have r1 : w1.cell? ⟨pr, 1, none⟩ = some (.string ⟨#[]⟩) := blk_at HN1.out 1 rfl
          have r2 : w1.cell? ⟨pr, 2, none⟩ = some (.int .i64 0) := blk_at HN1.out 2 rfl
          have r3 : w1.cell? ⟨pr, 3, none⟩ = some (.slice none 0 0) := blk_at HN1.out 3 rfl
          have z0 : w1.frozen? ⟨pr, 0, none⟩ = false := blk_free HN1.out 0
          have z1 : w1.frozen? ⟨pr, 1, none⟩ = false := blk_free HN1.out 1
          have z2 : w1.frozen? ⟨pr, 2, none⟩ = false := blk_free HN1.out 2
          have z3 : w1.frozen? ⟨pr, 3, none⟩ = false := blk_free HN1.out 3
          obtain ⟨V, hV⟩ : ∃ V, V = (((w1.setCell ⟨pr, 0, none⟩ (.int .i64 rk)).setCell ⟨pr, 1, none⟩ (.string (bs rv))).setCell ⟨pr, 2, none⟩ (.int .i64 rn)).setCell ⟨pr, 3, none⟩ (.slice ko rks.length kc) := ⟨_, rfl⟩
          have HV : Hid (V.heap[pr]? = some (.cells #[.int .i64 rk, .string (bs rv), .int .i64 rn, .slice ko rks.length kc] 50 (0, 0)) ∧ SpotPostN w0 w b i ao key v n (swapP key val m n i ps) ⟨rk, rv, rn, rks⟩ (.returned (rrV ⟨rk, rv, rn, rks⟩ ko kc)) V) := (by rw [hV]; exact HST)
          unfold rrV
          dsimp only
          go_wp2
          rw [← hV]
          clear hV r0 r1 r2 r3
          have j0 := blk_at HV.out.1 0 rfl
          have j1 := blk_at HV.out.1 1 rfl
          have j2 := blk_at HV.out.1 2 rfl
          have j3 := blk_at HV.out.1 3 rfl
          exact bodyPost_ret (v := rrV ⟨rk, rv, rn, rks⟩ ko kc) (by simp [results, Tryz.results71, go_sem, j0, j1, j2, j3, rrV]) rfl HV.out.2
        · skip
          by_cases h5 : kd = 5
          · subst h5
            have HS : Hid (doP 5 key val m v n i ps = putP key (v ++ val) n i ps ∧ doR 5 key val m v n i ps = putRr (v ++ val) n ps.length) := ⟨by unfold doP; simp, by unfold doR; simp⟩
            rw [HS.out.1, HS.out.2]
            have PUT := putSN_any w0 b c i ao ps key v (v ++ val) n W.drew HB.out (HO.out.kept (Kept.refl _ _).drew) HK.out.drew hwb hl hn0 hi0 hi1
            go_enter Tryz.func71, Tryz.ntmps71
            go_upto_region 1 with fail
            rw [← hW]
            obtain ⟨C, HCe⟩ : ∃ C, Hid (C = w.heap.size) := ⟨_, rfl⟩
            obtain ⟨pr, HPe⟩ : ∃ pr, Hid (pr = w.heap.size + 1) := ⟨_, rfl⟩
            rw [← HPe.out] at HN HP ⊢
            rw [← HCe.out] at HC d0 d1 d2 d3 ⊢
            clear hW
            have KWX : Hid (Kept Nil w W.drew) := KW.out.drew
            have hsum : ∀ w' : World, (Op.stringOp .add (bs v) (bs val)).run Tryz.prog w' = .ok (.string (bs (v ++ val))) w' := fun w' => by rw [run_string_add_sum w' (bs v) (bs val) (by rw [bs_size, bs_size]; omega), bs_append]
            go_upto_region 11 with fail
            go_region_with (go_at_call 115; go_must (go_fit PUT; rintro _ w1 ⟨ao', c', ko, kc, rfl, h2, h3, h4, h5⟩; have HN1 : Hid (w1.heap[pr]? = some (.cells #[.int .i64 0, .string ⟨#[]⟩, .int .i64 0, .slice none 0 0] 50 (0, 0))) := h5.two.block _ _ HN.out HP.out.2.2; have HST := post_storeN (w := w) h2 h3 h4 ⟨h5.old, (KWX.out.mono fun _ _ x => x.elim).trans h5.two⟩ HN1.out HP.out.1 HP.out.2.1; clear h2 h3 h4 h5; generalize (putRr (v ++ val) n ps.length) = r at *; obtain ⟨rk, rv, rn, rks⟩ := r; have r0 : w1.cell? ⟨pr, 0, none⟩ = some (.int .i64 0) := blk_at HN1.out 0 rfl; have r1 : w1.cell? ⟨pr, 1, none⟩ = some (.string ⟨#[]⟩) := blk_at HN1.out 1 rfl; have r2 : w1.cell? ⟨pr, 2, none⟩ = some (.int .i64 0) := blk_at HN1.out 2 rfl; have r3 : w1.cell? ⟨pr, 3, none⟩ = some (.slice none 0 0) := blk_at HN1.out 3 rfl; have z0 : w1.frozen? ⟨pr, 0, none⟩ = false := blk_free HN1.out 0; have z1 : w1.frozen? ⟨pr, 1, none⟩ = false := blk_free HN1.out 1; have z2 : w1.frozen? ⟨pr, 2, none⟩ = false := blk_free HN1.out 2; have z3 : w1.frozen? ⟨pr, 3, none⟩ = false := blk_free HN1.out 3; obtain ⟨V, hV⟩ : ∃ V, V = (((w1.setCell ⟨pr, 0, none⟩ (.int .i64 rk)).setCell ⟨pr, 1, none⟩ (.string (bs rv))).setCell ⟨pr, 2, none⟩ (.int .i64 rn)).setCell ⟨pr, 3, none⟩ (.slice ko rks.length kc) := ⟨_, rfl⟩; have HV : Hid (V.heap[pr]? = some (.cells #[.int .i64 rk, .string (bs rv), .int .i64 rn, .slice ko rks.length kc] 50 (0, 0)) ∧ SpotPostN w0 w b i ao key v n (putP key (v ++ val) n i ps) ⟨rk, rv, rn, rks⟩ (.returned (rrV ⟨rk, rv, rn, rks⟩ ko kc)) V) := (by rw [hV]; exact HST); unfold rrV; dsimp only))
            all_goals
              go_wp2
              rw [← hV]
              clear hV r0 r1 r2 r3
              have j0 := blk_at HV.out.1 0 rfl
              have j1 := blk_at HV.out.1 1 rfl
              have j2 := blk_at HV.out.1 2 rfl
              have j3 := blk_at HV.out.1 3 rfl
              exact bodyPost_ret (v := rrV ⟨rk, rv, rn, rks⟩ ko kc) (by simp [results, Tryz.results71, go_sem, j0, j1, j2, j3, rrV]) rfl HV.out.2
          · omega

def ApPoN (w : World) (ps : List Pr) (r : Rr) (e : Ending) (w' : World) : Prop := ∃ ao' c' ko kc, e = .returned (.tuple #[.slice ao' ps.length c', rrV r ko kc]) ∧ OwnP w.heap.size w' ao' c' ps ∧ (ko = none ∧ kc = 0 ∧ r.ks = []) ∧ Kept Nil w w'
theorem ap_storeN {w W X : World} {pr c' kc : Nat} {ao' ko : Option Addr} {ps : List Pr} {r : Rr} {x0 x1 x2 x3 : Value} (hO : OwnP W.heap.size X ao' c' ps) (hk : ko = none ∧ kc = 0 ∧ r.ks = []) (KX : Kept Nil W X) (KW : Kept Nil w W) (HN : W.heap[pr]? = some (.cells #[x0, x1, x2, x3] 50 (0, 0))) (hp : w.heap.size ≤ pr) :
    (set4 X pr (.int .i64 r.kd) (.string (bs r.v)) (.int .i64 r.n) (.slice ko r.ks.length kc)).heap[pr]? = some (.cells #[.int .i64 r.kd, .string (bs r.v), .int .i64 r.n, .slice ko r.ks.length kc] 50 (0, 0)) ∧ ApPoN w ps r (.returned (.tuple #[.slice ao' ps.length c', rrV r ko kc])) (set4 X pr (.int .i64 r.kd) (.string (bs r.v)) (.int .i64 r.n) (.slice ko r.ks.length kc)) := by
  have hlt : pr < W.heap.size := lt_of_block HN
  refine ⟨blk_set (blk_set (blk_set (blk_set (KX.block _ _ HN (fun x => x.elim)) 0 _) 1 _) 2 _) 3 _, ao', c', ko, kc, rfl, ?_, ?_, ?_⟩
  · exact own_mono (ownsRow_setCell_below (ownsRow_setCell_below (ownsRow_setCell_below (ownsRow_setCell_below hO hlt _) hlt _) hlt _) hlt _) KW.size
  · exact hk
  · exact (((((KW.trans KX).setNew (p := ⟨pr, 0, none⟩) hp _).setNew (p := ⟨pr, 1, none⟩) hp _).setNew (p := ⟨pr, 2, none⟩) hp _).setNew (p := ⟨pr, 3, none⟩) hp _)
theorem ApPoN.drew {w w' : World} {ps : List Pr} {r : Rr} {e : Ending} (h : ApPoN w ps r e w') : ApPoN w ps r e w'.drew := by
  obtain ⟨a, b, c, d, h1, h2, h3, h4⟩ := h
  exact ⟨a, b, c, d, h1, h2.kept (Kept.refl _ _).drew, h3, h4.drew⟩
set_option maxRecDepth 100000 in
set_option maxHeartbeats 4000000 in
theorem applyN_any (B c : Nat) (ao : Option Addr) (ps : List Pr) (ck val : List UInt8) (kd m : Int) (w : World) (h : PairRow B w ao ps) (hn : ao = none → ps = [] ∧ c = 0) (hl : (ps.length : Int) ≤ 3518437208780) (hck : ck.length ≤ maxLen) (hval : val.length ≤ maxLen) (hk5 : 1 ≤ kd ∧ kd ≤ 5) :
    Calls Tryz.prog 21 #[.slice ao ps.length c, .agg #[.int .i64 kd, .string (bs ck), .string (bs val), .int .i64 m]] w (ApPoN w (apP kd ck val m ps) (apR kd ck val m ps)) := by
  obtain ⟨W, hW⟩ : ∃ W, W = (w.alloc (.cells #[.int .i64 kd, .string (bs ck), .string (bs val), .int .i64 m] 31)).alloc (.cells #[.int .i64 0, .string ⟨#[]⟩, .int .i64 0, .slice none 0 0] 50) := ⟨_, rfl⟩
  have KW : Hid (Kept Nil w W) := by rw [hW]; exact ((Kept.refl _ _).alloc _).alloc _
  have HC : Hid (W.heap[w.heap.size]? = some (.cells #[.int .i64 kd, .string (bs ck), .string (bs val), .int .i64 m] 31 (0, 0))) := by rw [hW]; exact blk_past (blk_new _ _) _
  have HN : Hid (W.heap[w.heap.size + 1]? = some (.cells #[.int .i64 0, .string ⟨#[]⟩, .int .i64 0, .slice none 0 0] 50 (0, 0))) := by
    rw [hW]
    have := blk_new (w.alloc (.cells #[.int .i64 kd, .string (bs ck), .string (bs val), .int .i64 m] 31)) (.cells #[.int .i64 0, .string ⟨#[]⟩, .int .i64 0, .slice none 0 0] 50)
    show _ = _
    simpa using this
  have HR : Hid (PairRow B W ao ps) := h.nil KW.out
  have HFit : Hid (Fit ps) := h.fit
  have HPW : Hid (w.heap.size ≤ w.heap.size + 1) := Nat.le_succ _
  obtain ⟨t1, HT1⟩ : ∃ t1, Hid (t1 = pairsOk ps) := ⟨_, rfl⟩
  obtain ⟨t2, HT2⟩ : ∃ t2, Hid (t2 = isCmd kd ck val m) := ⟨_, rfl⟩
  obtain ⟨PP, HPP⟩ : ∃ PP, Hid (PP = apP kd ck val m ps) := ⟨_, rfl⟩
  obtain ⟨RR, HRR⟩ : ∃ RR, Hid (RR = apR kd ck val m ps) := ⟨_, rfl⟩
  rw [← HPP.out, ← HRR.out]
  have HPR : Hid (PP = (if (t1 && t2) = true then doP kd ck val m (spotV ck ps) (spotN ck ps) (lowP ck ps) ps else ps) ∧ RR = (if (t1 && t2) = true then doR kd ck val m (spotV ck ps) (spotN ck ps) (lowP ck ps) ps else ⟨5, [], 0, []⟩)) := ⟨by rw [HPP.out, HT1.out, HT2.out]; rfl, by rw [HRR.out, HT1.out, HT2.out]; rfl⟩
  have CL := cloneP_any B c ao ps W HR.out hn hl
  go_enter Tryz.func21, Tryz.ntmps21
  go_wp2_with fail
  rw [← hW]
  obtain ⟨C, HCe⟩ : ∃ C, Hid (C = w.heap.size) := ⟨_, rfl⟩
  obtain ⟨pr, HPe⟩ : ∃ pr, Hid (pr = w.heap.size + 1) := ⟨_, rfl⟩
  rw [← HPe.out] at HN HPW ⊢
  rw [← HCe.out] at HC ⊢
  clear hW h
  go_fit CL
  rintro _ w1 ⟨ao1, c1, rfl, o1, k1⟩
  clear CL
  obtain ⟨b, HBe⟩ : ∃ b, Hid (b = w1.heap.size) := ⟨_, rfl⟩
  obtain ⟨X, hX⟩ : ∃ X, X = w1.alloc (.cells #[.string ⟨#[]⟩, .string ⟨#[]⟩, .int .i64 0, .slice ao1 ps.length c1, .int .i64 0] 121) := ⟨_, rfl⟩
  have KX : Hid (Kept Nil W X) := by rw [hX]; exact k1.alloc _
  have HO : Hid (OwnP W.heap.size X ao1 c1 ps) := by rw [hX]; exact o1.kept ((Kept.refl _ _).alloc _)
  have HB : Hid (SpotAt X b [] [] 0 ao1 ps.length c1 0) := by rw [hX, HBe.out]; exact blk_new _ _
  have HWB : Hid (W.heap.size ≤ b) := by show _ ≤ _; rw [HBe.out]; exact k1.size
  clear o1 k1
  have VA := kvValid_any B c ao ps X (HR.out.nil KX.out) (by omega)
  rw [← HT1.out] at VA
  go_wp2_with fail
  rw [← hX, ← HBe.out]
  clear hX
  go_fit VA
  rintro _ w2 ⟨rfl, k2⟩
  have Kw2 : Hid (Kept Nil W w2) := KX.out.trans k2
  have HOw2 : Hid (OwnP W.heap.size w2 ao1 c1 ps) := HO.out.kept k2
  have HBw2 : Hid (SpotAt w2 b [] [] 0 ao1 ps.length c1 0) := k2.block _ _ HB.out (fun x => x.elim)
  clear k2 VA HO HB KX
  have CM := isCommand_any kd m ck val w2 hck hval
  rw [← HT2.out] at CM
  have d0 : w2.cell? ⟨C, 0, none⟩ = some (.int .i64 kd) := blk_at (Kw2.out.block _ _ HC.out (fun x => x.elim)) 0 rfl
  have d1 : w2.cell? ⟨C, 1, none⟩ = some (.string (bs ck)) := blk_at (Kw2.out.block _ _ HC.out (fun x => x.elim)) 1 rfl
  have d2 : w2.cell? ⟨C, 2, none⟩ = some (.string (bs val)) := blk_at (Kw2.out.block _ _ HC.out (fun x => x.elim)) 2 rfl
  have d3 : w2.cell? ⟨C, 3, none⟩ = some (.int .i64 m) := blk_at (Kw2.out.block _ _ HC.out (fun x => x.elim)) 3 rfl
  cases t1 with
  | false =>
    have HE : Hid (ps = PP ∧ ⟨5, [], 0, []⟩ = RR) := ⟨by rw [HPR.out.1]; rfl, by rw [HPR.out.2]; rfl⟩
    obtain ⟨rfl, rfl⟩ := HE.out
    have HN9 : Hid (w2.heap[pr]? = some (.cells #[.int .i64 0, .string ⟨#[]⟩, .int .i64 0, .slice none 0 0] 50 (0, 0))) := Kw2.out.block _ _ HN.out (fun x => x.elim)
    have r0 : w2.cell? ⟨pr, 0, none⟩ = some (.int .i64 0) := blk_at HN9.out 0 rfl
    have r1 : w2.cell? ⟨pr, 1, none⟩ = some (.string ⟨#[]⟩) := blk_at HN9.out 1 rfl
    have r2 : w2.cell? ⟨pr, 2, none⟩ = some (.int .i64 0) := blk_at HN9.out 2 rfl
    have r3 : w2.cell? ⟨pr, 3, none⟩ = some (.slice none 0 0) := blk_at HN9.out 3 rfl
    have z0 : w2.frozen? ⟨pr, 0, none⟩ = false := blk_free HN9.out 0
    have z1 : w2.frozen? ⟨pr, 1, none⟩ = false := blk_free HN9.out 1
    have z2 : w2.frozen? ⟨pr, 2, none⟩ = false := blk_free HN9.out 2
    have z3 : w2.frozen? ⟨pr, 3, none⟩ = false := blk_free HN9.out 3
    have b3 : w2.cell? ⟨b, 3, none⟩ = some (.slice ao1 ps.length c1) := blk_at HBw2.out 3 rfl
    obtain ⟨V, hV⟩ : ∃ V, V = (((w2.setCell ⟨pr, 0, none⟩ (.int .i64 5)).setCell ⟨pr, 1, none⟩ (.string ⟨#[]⟩)).setCell ⟨pr, 2, none⟩ (.int .i64 0)).setCell ⟨pr, 3, none⟩ (.slice none 0 0) := ⟨_, rfl⟩
    have HV : Hid (V.heap[pr]? = some (.cells #[.int .i64 5, .string ⟨#[]⟩, .int .i64 0, .slice none 0 0] 50 (0, 0)) ∧ ApPoN w ps ⟨5, [], 0, []⟩ (.returned (.tuple #[.slice ao1 ps.length c1, rrV ⟨5, [], 0, []⟩ none 0])) V) := by
      rw [hV]
      exact ap_storeN (r := ⟨5, [], 0, []⟩) HOw2.out ⟨rfl, rfl, rfl⟩ Kw2.out KW.out HN.out HPW.out
    go_wp2
    rw [← hV]
    clear hV r0 r1 r2 r3
    have j0 := blk_at HV.out.1 0 rfl
    have j1 := blk_at HV.out.1 1 rfl
    have j2 := blk_at HV.out.1 2 rfl
    have j3 := blk_at HV.out.1 3 rfl
    exact bodyPost_ret (v := .tuple #[.slice ao1 ps.length c1, rrV ⟨5, [], 0, []⟩ none 0]) (by simp [results, Tryz.results21, go_sem, j0, j1, j2, j3, rrV, bs]) rfl HV.out.2
  | true =>
    go_wp2_with fail
    go_fit CM
    rintro _ w3 ⟨rfl, k3⟩
    have Kw3 : Hid (Kept Nil W w3) := Kw2.out.trans k3
    have HOw3 : Hid (OwnP W.heap.size w3 ao1 c1 ps) := HOw2.out.kept k3
    have HBw3 : Hid (SpotAt w3 b [] [] 0 ao1 ps.length c1 0) := k3.block _ _ HBw2.out (fun x => x.elim)
    clear k3 CM d0 d1 d2 d3 Kw2 HOw2 HBw2
    cases t2 with
    | false =>
      have HE : Hid (ps = PP ∧ ⟨5, [], 0, []⟩ = RR) := ⟨by rw [HPR.out.1]; rfl, by rw [HPR.out.2]; rfl⟩
      obtain ⟨rfl, rfl⟩ := HE.out
      have HN9 : Hid (w3.heap[pr]? = some (.cells #[.int .i64 0, .string ⟨#[]⟩, .int .i64 0, .slice none 0 0] 50 (0, 0))) := Kw3.out.block _ _ HN.out (fun x => x.elim)
      have r0 : w3.cell? ⟨pr, 0, none⟩ = some (.int .i64 0) := blk_at HN9.out 0 rfl
      have r1 : w3.cell? ⟨pr, 1, none⟩ = some (.string ⟨#[]⟩) := blk_at HN9.out 1 rfl
      have r2 : w3.cell? ⟨pr, 2, none⟩ = some (.int .i64 0) := blk_at HN9.out 2 rfl
      have r3 : w3.cell? ⟨pr, 3, none⟩ = some (.slice none 0 0) := blk_at HN9.out 3 rfl
      have z0 : w3.frozen? ⟨pr, 0, none⟩ = false := blk_free HN9.out 0
      have z1 : w3.frozen? ⟨pr, 1, none⟩ = false := blk_free HN9.out 1
      have z2 : w3.frozen? ⟨pr, 2, none⟩ = false := blk_free HN9.out 2
      have z3 : w3.frozen? ⟨pr, 3, none⟩ = false := blk_free HN9.out 3
      have b3 : w3.cell? ⟨b, 3, none⟩ = some (.slice ao1 ps.length c1) := blk_at HBw3.out 3 rfl
      obtain ⟨V, hV⟩ : ∃ V, V = (((w3.setCell ⟨pr, 0, none⟩ (.int .i64 5)).setCell ⟨pr, 1, none⟩ (.string ⟨#[]⟩)).setCell ⟨pr, 2, none⟩ (.int .i64 0)).setCell ⟨pr, 3, none⟩ (.slice none 0 0) := ⟨_, rfl⟩
      have HV : Hid (V.heap[pr]? = some (.cells #[.int .i64 5, .string ⟨#[]⟩, .int .i64 0, .slice none 0 0] 50 (0, 0)) ∧ ApPoN w ps ⟨5, [], 0, []⟩ (.returned (.tuple #[.slice ao1 ps.length c1, rrV ⟨5, [], 0, []⟩ none 0])) V) := by
        rw [hV]
        exact ap_storeN (r := ⟨5, [], 0, []⟩) HOw3.out ⟨rfl, rfl, rfl⟩ Kw3.out KW.out HN.out HPW.out
      go_wp2
      rw [← hV]
      clear hV r0 r1 r2 r3
      have j0 := blk_at HV.out.1 0 rfl
      have j1 := blk_at HV.out.1 1 rfl
      have j2 := blk_at HV.out.1 2 rfl
      have j3 := blk_at HV.out.1 3 rfl
      exact bodyPost_ret (v := .tuple #[.slice ao1 ps.length c1, rrV ⟨5, [], 0, []⟩ none 0]) (by simp [results, Tryz.results21, go_sem, j0, j1, j2, j3, rrV, bs]) rfl HV.out.2
    | true =>
      obtain ⟨hl32, hsrt, _⟩ := pairs_ok HT1.out.symm
      obtain ⟨s1, s2, s3, s4⟩ := spot_ok HT1.out.symm ck
      obtain ⟨v1, v2⟩ := isCmd_val HT2.out.symm
      have HE : Hid (PP = doP kd ck val m (spotV ck ps) (spotN ck ps) (lowP ck ps) ps ∧ RR = doR kd ck val m (spotV ck ps) (spotN ck ps) (lowP ck ps) ps) := ⟨by rw [HPR.out.1]; rfl, by rw [HPR.out.2]; rfl⟩
      have FI := find_any b c1 ao1 ps ck w3 (HOw3.out.row HFit.out) hsrt hl32 HBw3.out (HOw3.out.apart HBw3.out)
      have d1 : w3.cell? ⟨C, 1, none⟩ = some (.string (bs ck)) := blk_at (Kw3.out.block _ _ HC.out (fun x => x.elim)) 1 rfl
      go_wp2_with fail
      go_fit FI
      rintro _ w4 ⟨rfl, hb4, k4⟩
      have HB4 : Hid (SpotAt w4 b ck (spotV ck ps) (spotN ck ps) ao1 ps.length c1 (lowP ck ps)) := hb4
      have K4 : Hid (Kept Nil W w4) := Kw3.out.under k4 HWB.out
      have HO4 : Hid (OwnP W.heap.size w4 ao1 c1 ps) := HOw3.out.keptB k4 (HOw3.out.apart HBw3.out)
      clear hb4 k4 FI d1
      have DO := doSN_any W b c1 (lowP ck ps) ao1 ps ck val ck (spotV ck ps) kd m (spotN ck ps) w4 HB4.out HO4.out K4.out HWB.out hl32 s1 (lowP_le ck ps) s3 (by omega) hk5
      rw [← HE.out.1, ← HE.out.2] at DO
      have d0 : w4.cell? ⟨C, 0, none⟩ = some (.int .i64 kd) := blk_at (K4.out.block _ _ HC.out (fun x => x.elim)) 0 rfl
      have d1 : w4.cell? ⟨C, 1, none⟩ = some (.string (bs ck)) := blk_at (K4.out.block _ _ HC.out (fun x => x.elim)) 1 rfl
      have d2 : w4.cell? ⟨C, 2, none⟩ = some (.string (bs val)) := blk_at (K4.out.block _ _ HC.out (fun x => x.elim)) 2 rfl
      have d3 : w4.cell? ⟨C, 3, none⟩ = some (.int .i64 m) := blk_at (K4.out.block _ _ HC.out (fun x => x.elim)) 3 rfl
      clear HE HPR HPP HRR hsrt s1 s2 s3 s4 v1 v2
      go_wp2_with fail
      go_fit DO
      rintro _ w5 ⟨ao', c', ko, kc, rfl, h2, h3, h4, h5⟩
      obtain ⟨rk, rv, rn, rks⟩ := RR
      have HB5 : Hid (SpotAt w5 b ck (spotV ck ps) (spotN ck ps) ao' PP.length c' (lowP ck ps)) := h2
      have HO5 : Hid (OwnP W.heap.size w5 ao' c' PP) := h3
      have HK5 : Hid (ko = none ∧ kc = 0 ∧ rks = []) := h4
      have K5 : Hid (Kept Nil W w5) := h5.old
      clear h2 h3 h4 h5 DO d0 d1 d2 d3 HB4 HO4 K4
      unfold rrV
      dsimp only
      obtain ⟨X, hX⟩ : ∃ X, X = w5.alloc (.cells #[.int .i64 rk, .string (bs rv), .int .i64 rn, .slice ko rks.length kc] 50) := ⟨_, rfl⟩
      obtain ⟨rb, HRB⟩ : ∃ rb, Hid (rb = w5.heap.size) := ⟨_, rfl⟩
      have HX : Hid (X.heap[rb]? = some (.cells #[.int .i64 rk, .string (bs rv), .int .i64 rn, .slice ko rks.length kc] 50 (0, 0))) := by rw [hX, HRB.out]; exact blk_new _ _
      have HB6 : Hid (SpotAt X b ck (spotV ck ps) (spotN ck ps) ao' PP.length c' (lowP ck ps)) := by rw [hX]; exact blk_past HB5.out _
      have HO6 : Hid (OwnP W.heap.size X ao' c' PP) := by rw [hX]; exact HO5.out.kept ((Kept.refl _ _).alloc _)
      have HK6 : Hid (ko = none ∧ kc = 0 ∧ rks = []) := HK5
      have K6 : Hid (Kept Nil W X) := by rw [hX]; exact K5.out.alloc _
      have HN9 : Hid (X.heap[pr]? = some (.cells #[.int .i64 0, .string ⟨#[]⟩, .int .i64 0, .slice none 0 0] 50 (0, 0))) := by rw [hX]; exact blk_past (K5.out.block _ _ HN.out (fun x => x.elim)) _
      go_wp2_with fail
      rw [← hX, ← HRB.out]
      clear hX HB5 HO5 HK5 K5
      have r0 : X.cell? ⟨pr, 0, none⟩ = some (.int .i64 0) := blk_at HN9.out 0 rfl
      have r1 : X.cell? ⟨pr, 1, none⟩ = some (.string ⟨#[]⟩) := blk_at HN9.out 1 rfl
      have r2 : X.cell? ⟨pr, 2, none⟩ = some (.int .i64 0) := blk_at HN9.out 2 rfl
      have r3 : X.cell? ⟨pr, 3, none⟩ = some (.slice none 0 0) := blk_at HN9.out 3 rfl
      have z0 : X.frozen? ⟨pr, 0, none⟩ = false := blk_free HN9.out 0
      have z1 : X.frozen? ⟨pr, 1, none⟩ = false := blk_free HN9.out 1
      have z2 : X.frozen? ⟨pr, 2, none⟩ = false := blk_free HN9.out 2
      have z3 : X.frozen? ⟨pr, 3, none⟩ = false := blk_free HN9.out 3
      have x0 : X.cell? ⟨rb, 0, none⟩ = some (.int .i64 rk) := blk_at HX.out 0 rfl
      have x1 : X.cell? ⟨rb, 1, none⟩ = some (.string (bs rv)) := blk_at HX.out 1 rfl
      have x2 : X.cell? ⟨rb, 2, none⟩ = some (.int .i64 rn) := blk_at HX.out 2 rfl
      have x3 : X.cell? ⟨rb, 3, none⟩ = some (.slice ko rks.length kc) := blk_at HX.out 3 rfl
      have b3 : X.cell? ⟨b, 3, none⟩ = some (.slice ao' PP.length c') := blk_at HB6.out 3 rfl
      obtain ⟨V, hV⟩ : ∃ V, V = ((((X.setCell ⟨pr, 0, none⟩ (.int .i64 rk)).setCell ⟨pr, 1, none⟩ (.string (bs rv))).setCell ⟨pr, 2, none⟩ (.int .i64 rn)).setCell ⟨pr, 3, none⟩ (.slice ko rks.length kc)).drew := ⟨_, rfl⟩
      have HV : Hid (V.heap[pr]? = some (.cells #[.int .i64 rk, .string (bs rv), .int .i64 rn, .slice ko rks.length kc] 50 (0, 0)) ∧ ApPoN w PP ⟨rk, rv, rn, rks⟩ (.returned (.tuple #[.slice ao' PP.length c', rrV ⟨rk, rv, rn, rks⟩ ko kc])) V) := by
        rw [hV]
        have := ap_storeN (r := ⟨rk, rv, rn, rks⟩) HO6.out HK6.out K6.out KW.out HN.out HPW.out
        exact ⟨this.1, this.2.drew⟩
      go_region
      all_goals
        go_wp2
        rw [← hV]
        clear hV r0 r1 r2 r3
        have j0 := blk_at HV.out.1 0 rfl
        have j1 := blk_at HV.out.1 1 rfl
        have j2 := blk_at HV.out.1 2 rfl
        have j3 := blk_at HV.out.1 3 rfl
        exact bodyPost_ret (v := .tuple #[.slice ao' PP.length c', rrV ⟨rk, rv, rn, rks⟩ ko kc]) (by simp [results, Tryz.results21, go_sem, j0, j1, j2, j3, rrV]) rfl HV.out.2

end Go.Proofs.YtflnjlbafchnaaaGreatDoor
