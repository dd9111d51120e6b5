/-
  kv: rows of commands; what a command leaves is small; rows that others leave alone.
-/
import Derived.Test.YtflnjlbafchnaaaGreatDoorWKv12
namespace Go.Proofs.YtflnjlbafchnaaaGreatDoor
open Go.RowKit

/-- A command. -/
structure Cm where
  kd : Int
  k : List UInt8
  v : List UInt8
  m : Int
/-- A row of commands that lies below block B. -/
def CmRow (B : Nat) (w : World) (ao : Option Addr) (cs : List Cm) : Prop := ∀ j, (hj : j < cs.length) → ∃ a, ao = some a ∧ a.block < B ∧ w.cell? (a.add (j * 4)) = some (.int .i64 cs[j].kd) ∧ w.cell? ⟨(a.add (j * 4)).block, (a.add (j * 4)).off + 1, none⟩ = some (.string (bs cs[j].k)) ∧ w.cell? ⟨(a.add (j * 4)).block, (a.add (j * 4)).off + 2, none⟩ = some (.string (bs cs[j].v)) ∧ w.cell? ⟨(a.add (j * 4)).block, (a.add (j * 4)).off + 3, none⟩ = some (.int .i64 cs[j].m) ∧ cs[j].k.length ≤ maxLen ∧ cs[j].v.length ≤ maxLen
theorem CmRow.nil {B : Nat} {w w' : World} {ao : Option Addr} {cs : List Cm} (h : CmRow B w ao cs) (hk : Kept Nil w w') : CmRow B w' ao cs := fun j hj => by
  obtain ⟨a, ha, hb, c0, c1, c2, c3, l1, l2⟩ := h j hj
  exact ⟨a, ha, hb, cell_kept hk (fun _ x => x) c0, cell_kept hk (fun _ x => x) c1, cell_kept hk (fun _ x => x) c2, cell_kept hk (fun _ x => x) c3, l1, l2⟩
theorem putP_len {key x : List UInt8} {n : Int} {i : Nat} {ps : List Pr} (h : ps.length ≤ 32) (hi : i ≤ ps.length) : (putP key x n i ps).length ≤ 33 := by
  unfold putP
  split
  · omega
  · split
    · rw [insP_len hi]; omega
    · rw [List.length_set]; omega
theorem doP_len {kd m n : Int} {key val v : List UInt8} {i : Nat} {ps : List Pr} (h : ps.length ≤ 32) (hi : i ≤ ps.length) : (doP kd key val m v n i ps).length ≤ 33 := by
  unfold doP
  repeat' split
  · exact putP_len h hi
  · omega
  · unfold dropP delP
    split
    · omega
    · rw [List.length_append, List.length_take, List.length_drop]; omega
  · unfold swapP
    split
    · exact putP_len h hi
    · omega
  · exact putP_len h hi
  · omega
theorem apP_len {kd m : Int} {ck val : List UInt8} {ps : List Pr} {N : Nat} (hN : 33 ≤ N) (h : ps.length ≤ N) : (apP kd ck val m ps).length ≤ N := by
  unfold apP
  split
  · rename_i hb
    simp only [Bool.and_eq_true] at hb
    exact Nat.le_trans (doP_len (pairs_ok hb.1).1 (lowP_le ck ps)) hN
  · exact h
theorem putP_fit {key x : List UInt8} {n : Int} {i : Nat} {ps : List Pr} (h : Fit ps) (hk : key.length ≤ maxLen) : Fit (putP key x n i ps) := by
  unfold putP
  split
  · exact h
  · rename_i hr
    have hx : x.length ≤ maxLen := by
      have : roomB ps.length n x = true := by simpa using hr
      unfold roomB at this
      simp at this
      unfold maxLen
      omega
    split
    · intro p hp
      unfold insP at hp
      rcases List.mem_append.1 hp with hp | hp
      · exact h p (List.mem_of_mem_take hp)
      · rcases List.mem_cons.1 hp with rfl | hp
        · exact ⟨hk, hx⟩
        · exact h p (List.mem_of_mem_drop hp)
    · intro p hp
      rcases List.mem_or_eq_of_mem_set hp with hp | rfl
      · exact h p hp
      · exact ⟨hk, hx⟩
theorem doP_fit {kd m n : Int} {key val v : List UInt8} {i : Nat} {ps : List Pr} (h : Fit ps) (hk : key.length ≤ maxLen) : Fit (doP kd key val m v n i ps) := by
  unfold doP
  repeat' split
  · exact putP_fit h hk
  · exact h
  · unfold dropP delP
    split
    · exact h
    · intro p hp
      rcases List.mem_append.1 hp with hp | hp
      · exact h p (List.mem_of_mem_take hp)
      · exact h p (List.mem_of_mem_drop hp)
  · unfold swapP
    split
    · exact putP_fit h hk
    · exact h
  · exact putP_fit h hk
  · exact h
theorem apP_fit {kd m : Int} {ck val : List UInt8} {ps : List Pr} (h : Fit ps) (hk : ck.length ≤ maxLen) : Fit (apP kd ck val m ps) := by
  unfold apP
  split
  · exact doP_fit h hk
  · exact h
theorem apR_ks {kd m : Int} {ck val : List UInt8} {ps : List Pr} (h : Fit ps) : ((apR kd ck val m ps).ks.length ≤ 32) ∧ ∀ x ∈ (apR kd ck val m ps).ks, x.length ≤ maxLen := by
  have hput : ∀ (x : List UInt8) (n : Int), (putRr x n ps.length).ks = [] := fun x n => (putR_is x n ps.length).2
  have htell : ∀ (k : Int) (v : List UInt8) (n : Int), (tellRr k v n).ks = [] := fun k v n => (tellR_is k v n).2
  unfold apR
  split
  · rename_i hb
    simp only [Bool.and_eq_true] at hb
    have h32 := (pairs_ok hb.1).1
    unfold doR
    repeat' split
    · rw [hput]; simp
    · rw [htell]; simp
    · rw [(dropR_is _).2]; simp
    · unfold swapRr
      split
      · rw [hput]; simp
      · rw [htell]; simp
    · rw [hput]; simp
    · have hsub : ∀ p ∈ listP ck m (ps.drop (lowP ck ps)), p ∈ ps := fun p hp => by
        unfold listP at hp
        split at hp
        · exact List.mem_of_mem_drop (List.mem_of_mem_take (List.mem_of_mem_take hp))
        · exact List.mem_of_mem_drop (List.mem_of_mem_take hp)
      have hlen : (listP ck m (ps.drop (lowP ck ps))).length ≤ 32 := by
        unfold listP
        split
        · rw [List.length_take, List.length_take, List.length_drop]; omega
        · rw [List.length_take, List.length_drop]; omega
      refine ⟨by simpa using hlen, fun x hx => ?_⟩
      obtain ⟨p, hp, rfl⟩ := List.mem_map.1 hx
      exact (h p (hsub p hp)).1
  · simp
theorem OwnK.row {B c : Nat} {w : World} {ao : Option Addr} {ks : List (List UInt8)} (h : OwnK B w ao c ks) (hs : ∀ x ∈ ks, x.length ≤ maxLen) : StrRow w.heap.size w ao ks := fun j hj => by
  rcases h.2 with ⟨h1, _⟩ | ⟨g, cap, cur, hv, hb, hh, h1, h2, h3, h4⟩
  · simp at h1
    rw [h1.2.1] at hj
    simp at hj
  · simp only [Value.slice.injEq] at hv
    obtain ⟨rfl, _, _⟩ := hv
    refine ⟨_, rfl, lt_of_block hh, ?_, hs _ (List.getElem_mem hj)⟩
    rw [addr_addE, blk_cell hh]
    have := congrArg (fun l => l[j]?) h4
    simp only [List.getElem?_take, if_pos (show j < ks.length * 1 by omega), Array.getElem?_toList] at this
    rw [this]
    simp [kyCells, hj]
theorem OwnP.far {B c : Nat} {w w' : World} {ao : Option Addr} {ps : List Pr} {ob : Option Nat} (h : OwnP B w ao c ps) (hg : w.grownBy w' ob) (hne : ob ≠ (Value.slice ao ps.length c).ownBlock ∨ ob = none) : OwnP B w' ao c ps := by
  refine ⟨h.1, h.2.imp id ?_⟩
  rintro ⟨g, cap, cur, hv, hb, hh, h3⟩
  refine ⟨g, cap, cur, hv, hb, ?_, h3⟩
  rw [hg.block g (lt_of_block hh) (fun e => by
    rcases hne with hne | hne
    · rw [hv] at hne; exact hne e.symm
    · rw [hne] at e; cases e)]
  exact hh

theorem first_ap : apP 1 [107] [118] 0 [] = [⟨[107], [118], 1⟩] ∧ apR 1 [107] [118] 0 [] = ⟨1, [], 1, []⟩ := ⟨by rfl, by rfl⟩
theorem PairRow.wide {B B' : Nat} {w : World} {ao : Option Addr} {ps : List Pr} (h : PairRow B w ao ps) (hb : B ≤ B') : PairRow B' w ao ps := fun j hj => by
  obtain ⟨a, h1, h2, h3⟩ := h j hj
  exact ⟨a, h1, Nat.lt_of_lt_of_le h2 hb, h3⟩
theorem CmRow.wide {B B' : Nat} {w : World} {ao : Option Addr} {ps : List Cm} (h : CmRow B w ao ps) (hb : B ≤ B') : CmRow B' w ao ps := fun j hj => by
  obtain ⟨a, h1, h2, h3⟩ := h j hj
  exact ⟨a, h1, Nat.lt_of_lt_of_le h2 hb, h3⟩
theorem OwnK.neRes {B c pr : Nat} {w : World} {ko : Option Addr} {ks : List (List UInt8)} {cs : Array Value} (h : OwnK B w ko c ks) (HN : w.heap[pr]? = some (.cells cs 50 (0, 0))) : (Value.slice ko ks.length c).ownBlock ≠ some pr := fun e => by
  rcases h.2 with ⟨hv, _⟩ | ⟨g, cap, cur, hv, hb, hh, _⟩
  · rw [hv] at e; simp [Value.ownBlock] at e
  · rw [hv] at e
    simp [Value.ownBlock] at e
    subst e
    rw [hh] at HN
    simp at HN
theorem res_set {B p c kc : Nat} {wx X : World} {ao ko : Option Addr} {ps : List Pr} {ks : List (List UInt8)} {x0 x1 x2 x3 : Value} (HN : X.heap[p]? = some (.cells #[x0, x1, x2, x3] 50 (0, 0))) (HO : OwnP B X ao c ps) (HK : OwnK B X ko kc ks) (K : Kept Nil wx X) (hp : wx.heap.size ≤ p) (u0 u1 u2 u3 : Value) :
    (set4 X p u0 u1 u2 u3).heap[p]? = some (.cells #[u0, u1, u2, u3] 50 (0, 0)) ∧ OwnP B (set4 X p u0 u1 u2 u3) ao c ps ∧ OwnK B (set4 X p u0 u1 u2 u3) ko kc ks ∧ Kept Nil wx (set4 X p u0 u1 u2 u3) := by
  have h1 := HO.neRes HN
  have h2 := HK.neRes HN
  exact ⟨blk_set (blk_set (blk_set (blk_set HN 0 _) 1 _) 2 _) 3 _, ownsRow_setCell_other (ownsRow_setCell_other (ownsRow_setCell_other (ownsRow_setCell_other HO h1 _) h1 _) h1 _) h1 _, ownsRow_setCell_other (ownsRow_setCell_other (ownsRow_setCell_other (ownsRow_setCell_other HK h2 _) h2 _) h2 _) h2 _, (((K.setNew (p := ⟨p, 0, none⟩) hp _).setNew (p := ⟨p, 1, none⟩) hp _).setNew (p := ⟨p, 2, none⟩) hp _).setNew (p := ⟨p, 3, none⟩) hp _⟩
/-- Pairs and texts lie in blocks of their own. -/
theorem own_apart {B B' c kc : Nat} {w : World} {ao ko : Option Addr} {ps : List Pr} {ks : List (List UInt8)} {g : Nat} (h : OwnP B w ao c ps) (hk : OwnK B' w ko kc ks) (e1 : (Value.slice ao ps.length c).ownBlock = some g) (e2 : (Value.slice ko ks.length kc).ownBlock = some g) : False := by
  rcases h.2 with ⟨hv, _⟩ | ⟨g1, cap, cur, hv, hb, hh, _⟩
  · rw [hv] at e1; simp [Value.ownBlock] at e1
  · rcases hk.2 with ⟨hv2, _⟩ | ⟨g2, cap2, cur2, hv2, hb2, hh2, _⟩
    · rw [hv2] at e2; simp [Value.ownBlock] at e2
    · rw [hv] at e1
      rw [hv2] at e2
      simp [Value.ownBlock] at e1 e2
      subst e1
      subst e2
      rw [hh] at hh2
      simp at hh2
theorem OwnK.farP {B B' c kc : Nat} {w w' : World} {ao ko : Option Addr} {ps : List Pr} {ks : List (List UInt8)} (hk : OwnK B' w ko kc ks) (h : OwnP B w ao c ps) (hg : w.grownBy w' (Value.slice ao ps.length c).ownBlock) : OwnK B' w' ko kc ks := by
  refine ⟨hk.1, hk.2.imp id ?_⟩
  rintro ⟨g, cap, cur, hv, hb, hh, h3⟩
  refine ⟨g, cap, cur, hv, hb, ?_, h3⟩
  rw [hg.block g (lt_of_block hh) (fun e => own_apart h hk e.symm (by rw [hv]; rfl))]
  exact hh
theorem OwnP.farK {B B' c kc : Nat} {w w' : World} {ao ko : Option Addr} {ps : List Pr} {ks : List (List UInt8)} (h : OwnP B w ao c ps) (hk : OwnK B' w ko kc ks) (hg : w.grownBy w' (Value.slice ko ks.length kc).ownBlock) : OwnP B w' ao c ps := by
  refine ⟨h.1, h.2.imp id ?_⟩
  rintro ⟨g, cap, cur, hv, hb, hh, h3⟩
  refine ⟨g, cap, cur, hv, hb, ?_, h3⟩
  rw [hg.block g (lt_of_block hh) (fun e => own_apart h hk (by rw [hv]; rfl) e.symm)]
  exact hh

end Go.Proofs.YtflnjlbafchnaaaGreatDoor
