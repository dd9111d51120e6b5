/-
  KvMap: what its walk holds between the rounds.
-/
import Derived.Test.YtblmmbghnkplkaaWKvC
import Derived.Test.YtblmmbghnkplkaaWKvQ
import Derived.Test.YtblmmbghnkplkaaWAppAt
import Derived.Test.YtblmmbghnkplkaaWTorn2
namespace Go.Proofs.Ytblmmbghnkplkaa
open Go.RowKit

/-- Pairs, keys and values between two rounds. -/
structure KM (w : World) (t : Int) (ps : List Pr) (ks vs : List (List UInt8)) (ap ak av : Option Addr) (cp ck cv : Nat) (X : World) : Prop where
  mi : MI t ps ks vs
  row : PairRow X.heap.size X ap ps
  nil : ap = none → ps = [] ∧ cp = 0
  ok : OwnK w.heap.size X ak ck ks
  ov : OwnK w.heap.size X av cv vs
  far : ∀ g, (Value.slice ak ks.length ck).ownBlock = some g → (Value.slice av vs.length cv).ownBlock ≠ some g
  kept : Kept Nil w X
theorem KM.next {w X Y : World} {t : Int} {ps : List Pr} {ks vs : List (List UInt8)} {ap ak av : Option Addr} {cp ck cv : Nat} (h : KM w t ps ks vs ap ak av cp ck cv X) (k : Kept Nil X Y) : KM w t ps ks vs ap ak av cp ck cv Y :=
  ⟨h.mi, (h.row.nil k).wide k.size, h.nil, h.ok.kept k, h.ov.kept k, h.far, h.kept.trans k⟩
theorem KM.zero {w X : World} (k : Kept Nil w X) : KM w 0 [] [] [] none none none 0 0 0 X :=
  ⟨MI.zero, fun j hj => absurd hj (by simp), fun _ => ⟨rfl, rfl⟩, OwnK.nil _ _, OwnK.nil _ _, (fun g hg => by simp [Value.ownBlock] at hg), k⟩
theorem MI.small {t : Int} {ps : List Pr} {ks vs : List (List UInt8)} (h : MI t ps ks vs) : ps.length ≤ 32 ∧ ks.length ≤ 32 ∧ vs.length ≤ 32 := by
  have := (pairs_ok h.ok).1
  have := h.lk
  have := h.lv
  omega

theorem OwnK.freesM {B c : Nat} {w : World} {ao : Option Addr} {ks : List (List UInt8)} (h : OwnK B w ao c ks) (h0 : 0 < ks.length) : ∃ g cs, ao = some ⟨g, 0, none⟩ ∧ w.heap[g]? = some (.cells cs 9 (0, 0)) ∧ ks.length ≤ cs.size := by
  rcases h.2 with ⟨h1, _⟩ | ⟨g, cap, cur, hv, hb, hh, h1, h2, h3, h4⟩
  · simp at h1
    omega
  · simp only [Value.slice.injEq] at hv
    exact ⟨g, cur, hv.1, hh, by rw [h3]; omega⟩
theorem OwnK.setM {B g c k : Nat} {w : World} {ks : List (List UInt8)} (h : OwnK B w (some ⟨g, 0, none⟩) c ks) (z : List UInt8) : OwnK B (w.setCell ⟨g, k, none⟩ (.string (bs z))) (some ⟨g, 0, none⟩) c (ks.set k z) := by
  have := own_setAtK h k (.string (bs z))
  unfold OwnK kyCells
  rw [List.length_set, List.map_set]
  exact this

theorem own_far {B size n : Nat} {e : TypeId} {w w' : World} {v : Value} {xs : List Value} {ob : Option Nat} (h : w.ownsRow B e size v n xs) (hg : w.grownBy w' ob) (hne : ∀ g, v.ownBlock = some g → ob ≠ some g) : w'.ownsRow B e size v n xs := by
  refine ⟨h.1, h.2.imp id ?_⟩
  rintro ⟨g, cap, cur, hv, hb, hh, h3⟩
  refine ⟨g, cap, cur, hv, hb, ?_, h3⟩
  rw [hg.block g (lt_of_block hh) (fun e => hne g (by rw [hv]; rfl) e.symm)]
  exact hh
theorem own_neTy {B size n b : Nat} {e t : TypeId} {w : World} {v : Value} {xs : List Value} {cs : Array Value} (h : w.ownsRow B e size v n xs) (hb : w.heap[b]? = some (.cells cs t (0, 0))) (hne : e ≠ t) : v.ownBlock ≠ some b := fun ee => by
  rcases h.2 with ⟨hv, _⟩ | ⟨g, cap, cur, hv, _, hh, _⟩
  · rw [hv] at ee; simp [Value.ownBlock] at ee
  · rw [hv] at ee
    simp [Value.ownBlock] at ee
    subst ee
    rw [hh] at hb
    simp at hb
    exact hne hb.2
theorem own_lt {B size n g : Nat} {e : TypeId} {w : World} {v : Value} {xs : List Value} (h : w.ownsRow B e size v n xs) (hg : v.ownBlock = some g) : g < w.heap.size := (World.ownsRow.lt h g hg).2
/-- Keys and values, apart from each other. -/
structure KS (w : World) (ks vs : List (List UInt8)) (ak av : Option Addr) (ck cv : Nat) (X : World) : Prop where
  ok : OwnK w.heap.size X ak ck ks
  ov : OwnK w.heap.size X av cv vs
  far : ∀ g, (Value.slice ak ks.length ck).ownBlock = some g → (Value.slice av vs.length cv).ownBlock ≠ some g
  kept : Kept Nil w X
theorem KM.ks {w X : World} {t : Int} {ps : List Pr} {ks vs : List (List UInt8)} {ap ak av : Option Addr} {cp ck cv : Nat} (h : KM w t ps ks vs ap ak av cp ck cv X) : KS w ks vs ak av ck cv X := ⟨h.ok, h.ov, h.far, h.kept⟩
theorem KS.keyApp {w X Y : World} {o : Obj} {ks vs : List (List UInt8)} {ak av a2 : Option Addr} {ck cv c2 : Nat} {key : List UInt8} (h : KS w ks vs ak av ck cv X) (ho : Y.ownsRow w.heap.size 9 1 (.slice a2 (ks.length + 1) c2) (ks.length + 1) (kyCells ks ++ [.string (bs key)])) (hg : (X.alloc o).grownBy Y (Value.slice ak ks.length ck).ownBlock) (hl : ∀ g, (Value.slice a2 (ks.length + 1) c2).ownBlock = some g → (Value.slice ak ks.length ck).ownBlock = some g ∨ (X.alloc o).heap.size ≤ g) : KS w (ks ++ [key]) vs a2 av c2 cv Y := by
  have e : (ks ++ [key]).length = ks.length + 1 := by simp
  have hov : OwnK w.heap.size (X.alloc o) av cv vs := h.ov.kept ((Kept.refl _ _).alloc _)
  refine ⟨by unfold OwnK; rw [kyCells_snoc, e]; exact ho, own_far hov hg (fun g hv hk => h.far g hk hv), fun g hk hv => ?_, (h.kept.alloc _).grown hg (fun g hk => own_row h.ok g hk)⟩
  rw [e] at hk
  rcases hl g hk with h1 | h1
  · exact h.far g h1 hv
  · have := own_lt hov hv
    omega
theorem KS.valApp {w X Y : World} {o : Obj} {ks vs : List (List UInt8)} {ak av a2 : Option Addr} {ck cv c2 : Nat} {key : List UInt8} (h : KS w ks vs ak av ck cv X) (ho : Y.ownsRow w.heap.size 9 1 (.slice a2 (vs.length + 1) c2) (vs.length + 1) (kyCells vs ++ [.string (bs key)])) (hg : (X.alloc o).grownBy Y (Value.slice av vs.length cv).ownBlock) (hl : ∀ g, (Value.slice a2 (vs.length + 1) c2).ownBlock = some g → (Value.slice av vs.length cv).ownBlock = some g ∨ (X.alloc o).heap.size ≤ g) : KS w ks (vs ++ [key]) ak a2 ck c2 Y := by
  have e : (vs ++ [key]).length = vs.length + 1 := by simp
  have hok : OwnK w.heap.size (X.alloc o) ak ck ks := h.ok.kept ((Kept.refl _ _).alloc _)
  refine ⟨own_far hok hg (fun g hk hv => h.far g hk hv), by unfold OwnK; rw [kyCells_snoc, e]; exact ho, fun g hk hv => ?_, (h.kept.alloc _).grown hg (fun g hk => own_row h.ov g hk)⟩
  rw [e] at hv
  rcases hl g hv with h1 | h1
  · exact h.far g hk h1
  · have := own_lt hok hk
    omega
theorem KS.setVal {w X : World} {ks vs : List (List UInt8)} {ak : Option Addr} {ck cv g q : Nat} {x : List UInt8} (h : KS w ks vs ak (some ⟨g, 0, none⟩) ck cv X) (h0 : 0 < vs.length) : KS w ks (vs.set q x) ak (some ⟨g, 0, none⟩) ck cv (X.setCell ⟨g, q, none⟩ (.string (bs x))) := by
  obtain ⟨g', cs, e0, hb, _⟩ := h.ov.freesM h0
  cases e0
  have hob : (Value.slice (some ⟨g, 0, none⟩) vs.length cv).ownBlock = some g := by simp [Value.ownBlock]
  refine ⟨ownsRow_setCell_other h.ok (fun e => h.far g e hob) _, h.ov.setM x, fun g2 hk hv => ?_, h.kept.setNew (p := ⟨g, q, none⟩) (own_row h.ov g hob) _⟩
  rw [List.length_set] at hv
  exact h.far g2 hk hv

end Go.Proofs.Ytblmmbghnkplkaa
