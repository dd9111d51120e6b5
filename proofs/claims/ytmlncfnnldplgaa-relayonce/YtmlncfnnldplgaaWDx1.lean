/-
  DelegExact: the document's within, HostOf, SameBounds, IsDelegation.
-/
import Derived.Test.YtmlncfnnldplgaaWDf0
import Derived.Deep.DeepCutAuto
namespace Go.Proofs.Ytmlncfnnldplgaa
open Go.RowKit

/-- The last bound that is not behind a key. -/
def hoF (key : List UInt8) (ps : List Bd) : Int := ps.foldl (fun h b => if lessB key b.f = true then h else b.h) 0
theorem hoF_next {key : List UInt8} {ps : List Bd} {k : Nat} (h : k < ps.length) : hoF key (ps.take (k + 1)) = if lessB key ps[k].f = true then hoF key (ps.take k) else ps[k].h := by
  unfold hoF
  rw [List.take_succ_eq_append_getElem h, List.foldl_append]
  rfl
theorem foldl_all {key : List UInt8} : ∀ {ps : List Bd} {d : Int}, (∀ x ∈ ps, lessB key x.f = true) → ps.foldl (fun h b => if lessB key b.f = true then h else b.h) d = d
  | [], _, _ => rfl
  | x :: t, d, h => by
    rw [List.foldl_cons, if_pos (h x (by simp)), foldl_all (fun y hy => h y (by simp [hy]))]
theorem hoF_go {key : List UInt8} : ∀ {ps : List Bd} {d : Int}, SrtB ps → ps.foldl (fun h b => if lessB key b.f = true then h else b.h) d = hoR d ps key
  | [], _, _ => rfl
  | x :: t, d, h => by
    obtain ⟨p, s⟩ := List.pairwise_cons.1 h
    rw [List.foldl_cons]
    show _ = if lessB key x.f = true then d else hoR x.h t key
    cases hk : lessB key x.f with
    | true => rw [if_pos rfl, if_pos rfl, foldl_all (fun y hy => less_trans hk (p y hy))]
    | false => rw [if_neg (by decide), if_neg (by decide), hoF_go s]
theorem hoF_is {key : List UInt8} {ps : List Bd} (h : SrtB ps) : hoF key ps = hoR 0 ps key := hoF_go h
end Go.Proofs.Ytmlncfnnldplgaa
