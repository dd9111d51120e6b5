/-
  SessionExact: rows that lie below one block or from another on; sessions put behind others; what is written over.
-/
import Derived.Test.YtbfleeilpccmcaaWOlb
import Derived.Test.YtbfleeilpccmcaaWKvW
import Derived.Test.YtbfleeilpccmcaaWTab10
import Derived.Test.YtbfleeilpccmcaaWAppKeep
namespace Go.Proofs.Ytbfleeilpccmcaa
open Go.RowKit

/-- Where a row's block lies. -/
def Loc (G : Nat → Prop) (ao : Option Addr) (n : Nat) : Prop := ∀ a, ao = some a → n ≠ 0 → G a.block
structure PIn (G : Nat → Prop) (w : World) (ao : Option Addr) (c : Nat) (ps : List Pr) : Prop where
  row : PairRow w.heap.size w ao ps
  loc : Loc G ao ps.length
  non : ao = none → ps = [] ∧ c = 0
structure KIn (G : Nat → Prop) (w : World) (ao : Option Addr) (c : Nat) (ks : List (List UInt8)) : Prop where
  row : StrRow w.heap.size w ao ks
  loc : Loc G ao ks.length
  non : ao = none → ks = [] ∧ c = 0
  len : ks.length ≤ 8796093022200
structure SIn (G : Nat → Prop) (w : World) (ao : Option Addr) (c : Nat) (es : List Se) : Prop where
  row : SeRow w.heap.size w ao es
  loc : Loc G ao es.length
  non : ao = none → es = [] ∧ c = 0
  keys : ∀ e ∈ es, KIn G w e.ao e.c e.s.ks
theorem PIn.far {X : Nat → Obj → Prop} {G : Nat → Prop} {c : Nat} {w w' : World} {ao : Option Addr} {ps : List Pr} (h : PIn G w ao c ps) (hk : Kept X w w') (hX : ∀ k o, G k → ¬ X k o) : PIn G w' ao c ps := ⟨fun j hj => by
  obtain ⟨a, ha, hb, c0, c1, c2, l1, l2⟩ := h.row j hj
  have hl := h.loc a ha (by omega)
  refine ⟨a, ha, Nat.lt_of_lt_of_le hb hk.size, cell_kept hk (fun o => ?_) c0, cell_kept hk (fun o => ?_) c1, cell_kept hk (fun o => ?_) c2, l1, l2⟩ <;> exact hX _ _ (by simpa [add_block] using hl), h.loc, h.non⟩
theorem KIn.far {X : Nat → Obj → Prop} {G : Nat → Prop} {c : Nat} {w w' : World} {ao : Option Addr} {ks : List (List UInt8)} (h : KIn G w ao c ks) (hk : Kept X w w') (hX : ∀ k o, G k → ¬ X k o) : KIn G w' ao c ks := ⟨fun j hj => by
  obtain ⟨a, ha, hb, c0, l1⟩ := h.row j hj
  have hl := h.loc a ha (by omega)
  refine ⟨a, ha, Nat.lt_of_lt_of_le hb hk.size, cell_kept hk (fun o => ?_) c0, l1⟩
  exact hX _ _ (by simpa [add_block] using hl), h.loc, h.non, h.len⟩
theorem SIn.far {X : Nat → Obj → Prop} {G : Nat → Prop} {c : Nat} {w w' : World} {ao : Option Addr} {es : List Se} (h : SIn G w ao c es) (hk : Kept X w w') (hX : ∀ k o, G k → ¬ X k o) : SIn G w' ao c es := ⟨fun j hj => by
  obtain ⟨a, ha, hb, c0, _, hn, l1, l2⟩ := h.row j hj
  have hl := h.loc a ha (by omega)
  refine ⟨a, ha, Nat.lt_of_lt_of_le hb hk.size, fun r u hu => cell_kept hk (fun o => ?_) (c0 r u hu), ((h.keys _ (List.getElem_mem hj)).far hk hX).row, hn, l1, l2⟩
  exact hX _ _ (by simpa [add_block] using hl), h.loc, h.non, fun e he => (h.keys e he).far hk hX⟩
theorem PIn.kept {G : Nat → Prop} {c : Nat} {w w' : World} {ao : Option Addr} {ps : List Pr} (h : PIn G w ao c ps) (hk : Kept Nil w w') : PIn G w' ao c ps := h.far hk (fun _ _ _ x => x)
theorem KIn.kept {G : Nat → Prop} {c : Nat} {w w' : World} {ao : Option Addr} {ks : List (List UInt8)} (h : KIn G w ao c ks) (hk : Kept Nil w w') : KIn G w' ao c ks := h.far hk (fun _ _ _ x => x)
theorem SIn.kept {G : Nat → Prop} {c : Nat} {w w' : World} {ao : Option Addr} {es : List Se} (h : SIn G w ao c es) (hk : Kept Nil w w') : SIn G w' ao c es := h.far hk (fun _ _ _ x => x)
theorem PIn.mono {G G' : Nat → Prop} {c : Nat} {w : World} {ao : Option Addr} {ps : List Pr} (h : PIn G w ao c ps) (hG : ∀ k, k < w.heap.size → G k → G' k) : PIn G' w ao c ps := ⟨h.row, fun a ha hn => by
  obtain ⟨a', ha', hb, _⟩ := h.row 0 (by omega)
  rw [ha] at ha'
  cases ha'
  exact hG _ hb (h.loc a ha hn), h.non⟩
theorem KIn.mono {G G' : Nat → Prop} {c : Nat} {w : World} {ao : Option Addr} {ks : List (List UInt8)} (h : KIn G w ao c ks) (hG : ∀ k, k < w.heap.size → G k → G' k) : KIn G' w ao c ks := ⟨h.row, fun a ha hn => by
  obtain ⟨a', ha', hb, _⟩ := h.row 0 (by omega)
  rw [ha] at ha'
  cases ha'
  exact hG _ hb (h.loc a ha hn), h.non, h.len⟩
theorem SIn.mono {G G' : Nat → Prop} {c : Nat} {w : World} {ao : Option Addr} {es : List Se} (h : SIn G w ao c es) (hG : ∀ k, k < w.heap.size → G k → G' k) : SIn G' w ao c es := ⟨h.row, fun a ha hn => by
  obtain ⟨a', ha', hb, _⟩ := h.row 0 (by omega)
  rw [ha] at ha'
  cases ha'
  exact hG _ hb (h.loc a ha hn), h.non, fun e he => (h.keys e he).mono hG⟩
theorem own_loc {G : Nat → Prop} {C c sz n : Nat} {e : TypeId} {w : World} {ao : Option Addr} {l : List Value} (h : w.ownsRow C e sz (.slice ao n c) n l) (hC : ∀ k, C ≤ k → G k) : Loc G ao n := fun a ha hn => by
  rcases h.2 with ⟨h1, h2⟩ | ⟨g, cap, cur, hv, hb, _⟩
  · exact absurd h2 hn
  · simp only [Value.slice.injEq] at hv
    rw [hv.1] at ha
    cases ha
    exact hC _ hb
theorem KIn.own {G : Nat → Prop} {C c : Nat} {w : World} {ao : Option Addr} {ks : List (List UInt8)} (h : OwnK C w ao c ks) (hC : ∀ k, C ≤ k → G k) (hs : ∀ x ∈ ks, x.length ≤ maxLen) (hl : ks.length ≤ 8796093022200) : KIn G w ao c ks :=
  ⟨h.row hs, own_loc h hC, fun e => by rw [e] at h; exact ownK_nilS h, hl⟩
theorem KIn.none {G : Nat → Prop} {w : World} : KIn G w none 0 [] := ⟨fun j hj => absurd hj (by simp), fun _ ha => (by cases ha), fun _ => ⟨rfl, rfl⟩, by simp⟩
theorem SIn.val {G : Nat → Prop} {c : Nat} {w : World} {ao : Option Addr} {es : List Se} (h : SIn G w ao c es) : ∀ e ∈ es, e.s.val.length ≤ maxLen := fun e he => by
  obtain ⟨j, hj, rfl⟩ := List.getElem_of_mem he
  obtain ⟨_, _, _, _, _, _, _, l2⟩ := h.row j hj
  exact l2
theorem res_cells {X : World} {A : Nat} {x0 x1 x2 x3 : Value} (B6 : X.heap[A]? = some (.cells #[x0, x1, x2, x3] 45 (0, 0))) : X.cell? ⟨A, 0, .none⟩ = some x0 ∧ X.cell? ⟨A, 1, .none⟩ = some x1 ∧ X.cell? ⟨A, 2, .none⟩ = some x2 ∧ X.cell? ⟨A, 3, .none⟩ = some x3 ∧ X.frozen? ⟨A, 0, .none⟩ = false ∧ X.frozen? ⟨A, 1, .none⟩ = false ∧ X.frozen? ⟨A, 2, .none⟩ = false ∧ X.frozen? ⟨A, 3, .none⟩ = false := ⟨blk_at B6 0 rfl, blk_at B6 1 rfl, blk_at B6 2 rfl, blk_at B6 3 rfl, blk_free B6 0, blk_free B6 1, blk_free B6 2, blk_free B6 3⟩
/-- What a request makes of a table, as the document's functions tell it: rows that lie in good blocks. -/
def RunPost (G : Nat → Prop) (w : World) (R : List Pr × List Ss × Int × Rr) (e : Ending) (w' : World) : Prop :=
  ∃ a1 c1 a2 c2 xs ko kc, e = .returned (.tuple #[.agg #[.slice a1 R.1.length c1, .slice a2 xs.length c2, .int .i64 R.2.2.1], rrV R.2.2.2 ko kc]) ∧ xs.map Se.s = R.2.1 ∧ PIn G w' a1 c1 R.1 ∧ SIn G w' a2 c2 xs ∧ KIn G w' ko kc R.2.2.2.ks ∧ Kept Nil w w'
/-- The blocks from one on and below another. -/
def Rng (B C : Nat) : Nat → Obj → Prop := fun k _ => B ≤ k ∧ k < C
theorem Kept.rng {B C : Nat} {w w' : World} {v : Value} (hg : w.grownBy w' v.ownBlock) (hB : ∀ g, v.ownBlock = some g → B ≤ g ∧ g < C) : Kept (Rng B C) w w' :=
  ⟨hg.os, hg.tape, hg.output, hg.size, fun k o hk hx => by
    rw [hg.block k (lt_of_block hk) (fun e => hx (hB k e.symm))]
    exact hk⟩
/-- A row that another of its kind, of the same block or not, leaves a row. -/
theorem row_share {B sz n n0 : Nat} {e : TypeId} {w w' : World} {v v0 : Value} {l l0 ys : List Value} (hz : 0 < sz) (h : w.ownsRow B e sz v n l) (h0 : w.ownsRow B e sz v0 n0 l0) (hg : w.grownBy w' v0.ownBlock) (h1 : w'.ownsRow B e sz v0 n0 ys) : ∃ l', w'.ownsRow B e sz v n l' := by
  rcases h.2 with ⟨e1, e2⟩ | ⟨g, cap, cur, hv, hb, hh, hnc, hcm, hcs, ht⟩
  · exact ⟨l, h.1, .inl ⟨e1, e2⟩⟩
  · by_cases hgg : v0.ownBlock = some g
    · rcases h0.2 with ⟨e1, _⟩ | ⟨g0, cap0, cur0, hv0, hb0, hh0, hnc0, hcm0, hcs0, _⟩
      · rw [e1] at hgg
        simp [Value.ownBlock] at hgg
      · rcases h1.2 with ⟨e1, _⟩ | ⟨g1, cap1, cur1, hv1, hb1, hh1, hnc1, hcm1, hcs1, _⟩
        · rw [e1] at hgg
          simp [Value.ownBlock] at hgg
        · rw [hv0] at hgg hv1
          simp only [Value.ownBlock, Option.some.injEq] at hgg
          simp only [Value.slice.injEq, Option.some.injEq, Addr.mk.injEq, true_and] at hv1
          obtain ⟨⟨hg1, _⟩, hc1⟩ := hv1
          subst hgg
          subst hg1
          rw [hh] at hh0
          simp only [Option.some.injEq, Obj.cells.injEq] at hh0
          have hcap : cap * sz = cap1 * sz := by rw [← hcs, hh0.1, hcs0, hc1]
          have hcc : cap = cap1 := Nat.eq_of_mul_eq_mul_right hz hcap
          refine ⟨cur1.toList.take (n * sz), ?_, .inr ⟨g0, cap, cur1, hv, hb, hh1, hnc, hcm, by rw [hcs1, hcc], rfl⟩⟩
          have h9 : n * sz ≤ cap * sz := Nat.mul_le_mul_right _ hnc
          simp only [List.length_take, Array.length_toList]
          omega
    · refine ⟨l, h.1, .inr ⟨g, cap, cur, hv, hb, ?_, hnc, hcm, hcs, ht⟩⟩
      rw [hg.block g (lt_of_block hh) (fun e => hgg e.symm)]
      exact hh

end Go.Proofs.Ytbfleeilpccmcaa
