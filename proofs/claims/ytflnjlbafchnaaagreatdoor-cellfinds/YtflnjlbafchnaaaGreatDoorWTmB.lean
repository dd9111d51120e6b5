/-
  Joined: WKvP, WTx2, WTx3, WTx4, WTxG, WTxA, WTxF, WTxH, WCeA, WAppAt, WTx5, WCe5.
-/
import Derived.Test.YtflnjlbafchnaaaGreatDoorWKv12
import Derived.Test.YtflnjlbafchnaaaGreatDoorWTmA
import Derived.Test.YtflnjlbafchnaaaGreatDoorWOld
import Derived.Test.YtflnjlbafchnaaaGreatDoorWKv11
import Derived.Deep.RegionHeld3
import Derived.Test.YtflnjlbafchnaaaGreatDoorWCe4
/-
  KvMap, plainly: pairs, and beside them keys with their values.
-/
namespace Go.Proofs.YtflnjlbafchnaaaGreatDoor
open Go.RowKit

theorem mem_iff_at {ps : List Pr} {p : Pr} : p ∈ ps ↔ ∃ j, ∃ hj : j < ps.length, ps[j] = p := List.mem_iff_getElem
theorem there_no {key : List UInt8} {ps : List Pr} (h : Srt ps) (ht : isThere key ps = false) : ∀ p ∈ ps, p.k ≠ key := fun p hp e => by
  obtain ⟨j, hj, rfl⟩ := List.getElem_of_mem hp
  have := getP_hit h hj e
  unfold getP at this
  rw [ht] at this
  simp at this
theorem there_yes {key : List UInt8} {ps : List Pr} (h : Srt ps) {p : Pr} (hp : p ∈ ps) (e : p.k = key) : isThere key ps = true := by
  cases ht : isThere key ps with
  | true => rfl
  | false => exact absurd e (there_no h ht p hp)
theorem there_low {key : List UInt8} {ps : List Pr} (h : Srt ps) {j : Nat} (hj : j < ps.length) (e : ps[j].k = key) : lowP key ps = j := by
  have g := getP_hit h hj e
  have ht := there_yes h (List.getElem_mem hj) e
  unfold getP at g
  rw [ht] at g
  simp at g
  omega
theorem spot_at {key : List UInt8} {ps : List Pr} (h : Srt ps) {p : Pr} (hp : p ∈ ps) (e : p.k = key) : spotV key ps = p.v ∧ spotN key ps = p.n := by
  obtain ⟨j, hj, rfl⟩ := List.getElem_of_mem hp
  have hl := there_low h hj e
  have ht := there_yes h hp e
  unfold spotV spotN
  rw [ht, hl, List.getElem?_eq_getElem hj]
  exact ⟨rfl, rfl⟩
theorem take_less {key : List UInt8} {ps : List Pr} {a : Pr} (ha : a ∈ ps.take (lowP key ps)) : lessB a.k key = true := by
  obtain ⟨j, hj, rfl⟩ := List.getElem_of_mem ha
  rw [List.length_take] at hj
  rw [List.getElem_take]
  exact lowP_lt (by omega) (by omega)
theorem drop_not {key : List UInt8} {ps : List Pr} (h : Srt ps) {a : Pr} (ha : a ∈ ps.drop (lowP key ps)) : lessB a.k key = false := by
  obtain ⟨j, hj, rfl⟩ := List.getElem_of_mem ha
  rw [List.length_drop] at hj
  rw [List.getElem_drop]
  exact lowP_ge h (by omega) (by omega)
theorem srt_ins {key : List UInt8} {ps : List Pr} (h : Srt ps) (ht : isThere key ps = false) {x : Pr} (hx : x.k = key) : Srt (insP (lowP key ps) x ps) := by
  have hd : ∀ q ∈ ps.drop (lowP key ps), lessB key q.k = true := fun q hq => less_total (drop_not h hq) (there_no h ht q (List.mem_of_mem_drop hq))
  unfold insP Srt
  rw [List.pairwise_append, List.pairwise_cons]
  refine ⟨h.sublist (List.take_sublist _ _), ⟨fun q hq => by rw [hx]; exact hd q hq, h.sublist (List.drop_sublist _ _)⟩, fun a ha b hb => ?_⟩
  rcases List.mem_cons.1 hb with rfl | hb
  · rw [hx]; exact take_less ha
  · exact less_trans (take_less ha) (hd b hb)
theorem srt_set {ps : List Pr} (h : Srt ps) {i : Nat} (hi : i < ps.length) {x : Pr} (hx : x.k = ps[i].k) : Srt (ps.set i x) := by
  have g := List.pairwise_iff_getElem.1 h
  refine List.pairwise_iff_getElem.2 fun a b ha hb hab => ?_
  rw [List.length_set] at ha hb
  rw [List.getElem_set, List.getElem_set]
  split <;> split
  · omega
  · rename_i e _
    subst e
    rw [hx]
    exact g i b hi hb hab
  · rename_i _ e
    subst e
    rw [hx]
    exact g a i ha hi hab
  · exact g a b ha hb hab
theorem srt_del {ps : List Pr} (h : Srt ps) (i : Nat) : Srt (delP i ps) := by
  unfold delP
  refine List.Pairwise.sublist ?_ h
  conv => rhs; rw [← List.take_append_drop i ps]
  refine List.Sublist.append (List.Sublist.refl _) ?_
  rw [show ps.drop (i + 1) = (ps.drop i).drop 1 by rw [List.drop_drop]]
  exact List.drop_sublist _ _
theorem mem_ins {i : Nat} {x p : Pr} {ps : List Pr} : p ∈ insP i x ps ↔ p = x ∨ p ∈ ps := by
  unfold insP
  constructor
  · intro h
    rcases List.mem_append.1 h with h | h
    · exact .inr (List.mem_of_mem_take h)
    · rcases List.mem_cons.1 h with h | h
      · exact .inl h
      · exact .inr (List.mem_of_mem_drop h)
  · rintro (rfl | h)
    · simp
    · rw [← List.take_append_drop i ps] at h
      rcases List.mem_append.1 h with h | h
      · exact List.mem_append_left _ h
      · exact List.mem_append_right _ (List.mem_cons_of_mem _ h)
theorem mem_set_of {i : Nat} {x p : Pr} {ps : List Pr} (hi : i < ps.length) (hp : p ∈ ps) (hne : p.k ≠ ps[i].k) : p ∈ ps.set i x := by
  obtain ⟨j, hj, rfl⟩ := List.getElem_of_mem hp
  have hji : i ≠ j := fun e => by subst e; exact hne rfl
  have : (ps.set i x)[j]'(by rw [List.length_set]; exact hj) = ps[j] := by rw [List.getElem_set, if_neg hji]
  rw [← this]
  exact List.getElem_mem _
theorem mem_set_new {i : Nat} {x : Pr} {ps : List Pr} (hi : i < ps.length) : x ∈ ps.set i x := List.mem_iff_getElem.2 ⟨i, by rw [List.length_set]; exact hi, by rw [List.getElem_set, if_pos rfl]⟩
theorem nodup_inj {l : List (List UInt8)} (h : l.Nodup) {i j : Nat} (hi : i < l.length) (hj : j < l.length) (e : l[i] = l[j]) : i = j := by
  have g := List.pairwise_iff_getElem.1 h
  rcases Nat.lt_trichotomy i j with h1 | h1 | h1
  · exact absurd e (g i j hi hj h1)
  · exact h1
  · exact absurd e.symm (g j i hj hi h1)
theorem mem_del_of {i : Nat} {p : Pr} {ps : List Pr} (hi : i < ps.length) (hp : p ∈ ps) (hne : p.k ≠ ps[i].k) : p ∈ delP i ps := by
  unfold delP
  rw [← List.take_append_drop i ps] at hp
  rcases List.mem_append.1 hp with h | h
  · exact List.mem_append_left _ h
  · rw [List.drop_eq_getElem_cons hi] at h
    rcases List.mem_cons.1 h with rfl | h
    · exact absurd rfl hne
    · exact List.mem_append_right _ h
theorem mem_del {i : Nat} {p : Pr} {ps : List Pr} (hp : p ∈ delP i ps) : p ∈ ps := by
  unfold delP at hp
  rcases List.mem_append.1 hp with h | h
  · exact List.mem_of_mem_take h
  · exact List.mem_of_mem_drop h
/-- What KvMap holds of a map: pairs, and beside them keys with their values. -/
structure MI (t : Int) (ps : List Pr) (ks vs : List (List UInt8)) : Prop where
  ok : pairsOk ps = true
  lk : ks.length = ps.length
  lv : vs.length = ps.length
  nd : ks.Nodup
  has : ∀ j, (hj : j < ks.length) → (hv : j < vs.length) → ∃ p ∈ ps, p.k = ks[j] ∧ p.v = vs[j]
  all : ∀ p ∈ ps, p.k ∈ ks
  ver : ∀ p ∈ ps, p.n ≤ t
theorem MI.zero : MI 0 [] [] [] := ⟨rfl, rfl, rfl, List.nodup_nil, fun j hj _ => absurd hj (by simp), (fun p hp => by cases hp), (fun p hp => by cases hp)⟩
theorem MI.mono {t t' : Int} {ps : List Pr} {ks vs : List (List UInt8)} (h : MI t ps ks vs) (ht : t ≤ t') : MI t' ps ks vs := ⟨h.ok, h.lk, h.lv, h.nd, h.has, h.all, fun p hp => Int.le_trans (h.ver p hp) ht⟩
theorem ok_of {ps : List Pr} (h1 : ps.length ≤ 32) (h2 : Srt ps) (h3 : ∀ p ∈ ps, prOk p = true) : pairsOk ps = true := by
  unfold pairsOk
  rw [decide_eq_true h1, srt_rise h2 h3 (fun x hx => by cases hx)]
  rfl
theorem MI.look {t : Int} {ps : List Pr} {ks vs : List (List UInt8)} (h : MI t ps ks vs) {j : Nat} (hj : j < ks.length) (hv : j < vs.length) : isThere ks[j] ps = true ∧ spotV ks[j] ps = vs[j] := by
  obtain ⟨p, hp, e1, e2⟩ := h.has j hj hv
  obtain ⟨_, hs, _⟩ := pairs_ok h.ok
  exact ⟨there_yes hs hp e1, by rw [(spot_at hs hp e1).1, e2]⟩
theorem MI.absent {t : Int} {ps : List Pr} {ks vs : List (List UInt8)} (h : MI t ps ks vs) {key : List UInt8} (hk : key ∉ ks) : isThere key ps = false := by
  cases ht : isThere key ps with
  | false => rfl
  | true =>
    obtain ⟨hl, e, _⟩ := there_at ht
    exact absurd (e ▸ h.all _ (List.getElem_mem hl)) hk
theorem prOk_mk {key x : List UInt8} {n : Int} (h1 : key ≠ []) (h2 : key.length ≤ 16) (h3 : x.length ≤ 64) (h4 : 1 ≤ n) (h5 : n ≤ 1099511627775) : prOk ⟨key, x, n⟩ = true := by
  unfold prOk isCnt
  simp [h1, h2, h3, h4, h5]
theorem MI.ins {t : Int} {ps : List Pr} {ks vs : List (List UInt8)} (h : MI t ps ks vs) {key x : List UInt8} (hk : key ∉ ks) (hl : ps.length < 32) (h1 : key ≠ []) (h2 : key.length ≤ 16) (h3 : x.length ≤ 64) (ht : 0 ≤ t) : MI (t + 1) (insP (lowP key ps) ⟨key, x, 0 + 1⟩ ps) (ks ++ [key]) (vs ++ [x]) := by
  obtain ⟨_, hs, hp⟩ := pairs_ok h.ok
  have hab := h.absent hk
  have hln : (insP (lowP key ps) ⟨key, x, 0 + 1⟩ ps).length = ps.length + 1 := insP_len (lowP_le key ps)
  refine ⟨ok_of (by rw [hln]; omega) (srt_ins hs hab rfl) (fun p hpp => ?_), by rw [hln, List.length_append, h.lk]; rfl, by rw [hln, List.length_append, h.lv]; rfl, ?_, fun j hj hv => ?_, fun p hpp => ?_, fun p hpp => ?_⟩
  · rcases mem_ins.1 hpp with rfl | hpp
    · exact prOk_mk h1 h2 h3 (by omega) (by omega)
    · exact hp p hpp
  · rw [List.nodup_append]
    refine ⟨h.nd, by simp, fun a ha b hb e => ?_⟩
    have : b = key := by simpa using hb
    subst this
    subst e
    exact hk ha
  · by_cases hjk : j < ks.length
    · rw [List.getElem_append_left hjk, List.getElem_append_left (by rw [h.lv, ← h.lk]; exact hjk)]
      obtain ⟨p, hpp, e⟩ := h.has j hjk (by rw [h.lv, ← h.lk]; exact hjk)
      exact ⟨p, mem_ins.2 (.inr hpp), e⟩
    · have e1 : j = ks.length := by rw [List.length_append] at hj; simp at hj; omega
      have e2 : ks.length = vs.length := by rw [h.lk, h.lv]
      refine ⟨⟨key, x, 0 + 1⟩, mem_ins.2 (.inl rfl), ?_, ?_⟩
      · rw [List.getElem_append_right (by omega)]; simp
      · rw [List.getElem_append_right (by omega)]; simp
  · rcases mem_ins.1 hpp with rfl | hpp
    · simp
    · exact List.mem_append_left _ (h.all p hpp)
  · rcases mem_ins.1 hpp with rfl | hpp
    · show (0 : Int) + 1 ≤ t + 1; omega
    · have := h.ver p hpp; omega
theorem MI.put {t : Int} {ps : List Pr} {ks vs : List (List UInt8)} (h : MI t ps ks vs) {x : List UInt8} {j : Nat} (hj : j < ks.length) (h3 : x.length ≤ 64) (ht : t < 1099511627775) : MI (t + 1) (ps.set (lowP ks[j] ps) ⟨ks[j], x, spotN ks[j] ps + 1⟩) ks (vs.set j x) := by
  obtain ⟨h32, hs, hp⟩ := pairs_ok h.ok
  obtain ⟨p0, hp0, e1, e2⟩ := h.has j hj (by rw [h.lv, ← h.lk]; exact hj)
  obtain ⟨i, hi, rfl⟩ := List.getElem_of_mem hp0
  have hl := there_low hs hi e1
  have hn := (spot_at hs hp0 e1).2
  have hv0 := h.ver _ hp0
  obtain ⟨g1, g2, g3, g4, g5⟩ := prOk_iff (hp _ hp0)
  rw [hl, hn]
  refine ⟨ok_of (by rw [List.length_set]; exact h32) (srt_set hs hi (by exact e1.symm)) (fun p hpp => ?_), by rw [List.length_set]; exact h.lk, by rw [List.length_set, List.length_set]; exact h.lv, h.nd, fun q hq hv => ?_, fun p hpp => ?_, fun p hpp => ?_⟩
  · rcases List.mem_or_eq_of_mem_set hpp with hpp | rfl
    · exact hp p hpp
    · rw [e1] at g1 g2
      exact prOk_mk g1 g2 h3 (by omega) (by omega)
  · rw [List.length_set] at hv
    by_cases hqj : j = q
    · subst hqj
      exact ⟨_, mem_set_new hi, rfl, by rw [List.getElem_set, if_pos rfl]⟩
    · obtain ⟨p, hpp, e3, e4⟩ := h.has q hq hv
      refine ⟨p, mem_set_of hi hpp (fun e => hqj ?_), e3, by rw [List.getElem_set, if_neg hqj]; exact e4⟩
      have : ks[j] = ks[q] := by rw [← e1, ← e, e3]
      exact nodup_inj h.nd hj hq this
  · rcases List.mem_or_eq_of_mem_set hpp with hpp | rfl
    · exact h.all p hpp
    · exact List.getElem_mem hj
  · rcases List.mem_or_eq_of_mem_set hpp with hpp | rfl
    · have := h.ver p hpp; omega
    · show ps[i].n + 1 ≤ t + 1; omega
theorem MI.del {t : Int} {ps : List Pr} {ks vs : List (List UInt8)} (h : MI t ps ks vs) {j : Nat} (hj : j < ks.length) : MI t (delP (lowP ks[j] ps) ps) (ks.take j ++ ks.drop (j + 1)) (vs.take j ++ vs.drop (j + 1)) := by
  obtain ⟨h32, hs, hp⟩ := pairs_ok h.ok
  obtain ⟨p0, hp0, e1, e2⟩ := h.has j hj (by rw [h.lv, ← h.lk]; exact hj)
  obtain ⟨i, hi, rfl⟩ := List.getElem_of_mem hp0
  have hl := there_low hs hi e1
  rw [hl]
  have hln := delP_len hi
  have hnd : (ks.take j ++ ks.drop (j + 1)).Nodup := by
    have := h.nd
    rw [← List.take_append_drop j ks] at this
    refine List.Nodup.sublist ?_ this
    refine List.Sublist.append (List.Sublist.refl _) ?_
    rw [show ks.drop (j + 1) = (ks.drop j).drop 1 by rw [List.drop_drop]]
    exact List.drop_sublist _ _
  have hat : ∀ (zs : List (List UInt8)) (q : Nat) (hq : q < (zs.take j ++ zs.drop (j + 1)).length) (hz : j < zs.length), ∃ hr : (if q < j then q else q + 1) < zs.length, (zs.take j ++ zs.drop (j + 1))[q] = zs[if q < j then q else q + 1] := fun zs q hq hz => by
    have hq' := hq
    rw [List.length_append, List.length_take, List.length_drop] at hq'
    by_cases hqj : q < j
    · refine ⟨by rw [if_pos hqj]; omega, ?_⟩
      rw [List.getElem_append_left (by rw [List.length_take]; omega), List.getElem_take]
      simp only [if_pos hqj]
    · refine ⟨by rw [if_neg hqj]; omega, ?_⟩
      rw [List.getElem_append_right (by rw [List.length_take]; omega), List.getElem_drop]
      simp only [if_neg hqj, List.length_take, Nat.min_eq_left (Nat.le_of_lt hz)]
      congr 1
      omega
  refine ⟨ok_of (by rw [hln]; omega) (srt_del hs i) (fun p hpp => hp p (mem_del hpp)), ?_, ?_, hnd, fun q hq hv => ?_, fun p hpp => ?_, fun p hpp => h.ver p (mem_del hpp)⟩
  · rw [hln, List.length_append, List.length_take, List.length_drop]; have := h.lk; omega
  · rw [hln, List.length_append, List.length_take, List.length_drop]; have := h.lv; have := h.lk; omega
  · obtain ⟨r1, f1⟩ := hat ks q hq hj
    obtain ⟨r2, f2⟩ := hat vs q hv (by rw [h.lv, ← h.lk]; exact hj)
    obtain ⟨p, hpp, e3, e4⟩ := h.has _ r1 r2
    rw [f1, f2]
    refine ⟨p, mem_del_of hi hpp (fun e => ?_), e3, e4⟩
    have hx : ks[if q < j then q else q + 1] = ks[j] := by rw [← e3, e, e1]
    have := nodup_inj h.nd r1 hj hx
    split at this <;> omega
  · have hk := h.all p (mem_del hpp)
    obtain ⟨m, hm, e3⟩ := List.getElem_of_mem hk
    have hmj : m ≠ j := fun e => by
      subst e
      -- the deleted key
      obtain ⟨u, hu, e4⟩ := List.getElem_of_mem hpp
      unfold delP at hpp
      rcases List.mem_append.1 hpp with hq | hq
      · obtain ⟨a, ha, e5⟩ := List.getElem_of_mem hq
        rw [List.length_take] at ha
        rw [List.getElem_take] at e5
        have hlt := List.pairwise_iff_getElem.1 hs a i (by omega) hi (by omega)
        rw [e5, e1, ← e3, less_irrefl] at hlt
        cases hlt
      · obtain ⟨a, ha, e5⟩ := List.getElem_of_mem hq
        rw [List.length_drop] at ha
        rw [List.getElem_drop] at e5
        have hlt := List.pairwise_iff_getElem.1 hs i (i + 1 + a) hi (by omega) (by omega)
        rw [e5, e1, ← e3, less_irrefl] at hlt
        cases hlt
    rw [← e3]
    by_cases hlt : m < j
    · refine List.mem_append_left _ ?_
      rw [List.mem_take_iff_getElem]
      exact ⟨m, by omega, rfl⟩
    · refine List.mem_append_right _ ?_
      rw [List.mem_drop_iff_getElem]
      exact ⟨m - (j + 1), by omega, by congr 1; omega⟩

end Go.Proofs.YtflnjlbafchnaaaGreatDoor

/-
  Transactions: read (the program): what a key says.
-/
namespace Go.Proofs.YtflnjlbafchnaaaGreatDoor
open Go.RowKit

def HdPost (w : World) (h : Hd) (e : Ending) (w' : World) : Prop := e = .returned (.agg #[.int .i64 h.n, .int .i64 h.b, .int .i64 h.t]) ∧ Kept Nil w w'
set_option maxRecDepth 100000 in
set_option maxHeartbeats 2000000 in
theorem read_any (l : List UInt8) (hl : l.length < 4294967281) (w : World) (hL : LD w) :
    Calls Tryz.prog 72 #[.string (bs l)] w (HdPost w (hdOf l)) := by
  obtain ⟨h, HH⟩ : ∃ h, Hid (h = hdOf l) := ⟨_, rfl⟩
  rw [← HH.out]
  obtain ⟨W, hW⟩ : ∃ W, W = w.alloc (.cells #[.int .i64 0, .int .i64 0, .int .i64 0] 104) := ⟨_, rfl⟩
  obtain ⟨A, HAe⟩ : ∃ A, Hid (A = w.heap.size) := ⟨_, rfl⟩
  have HAw : Hid (w.heap.size ≤ A) := by show _ ≤ _; rw [HAe.out]; exact Nat.le_refl _
  have KW : Hid (Kept Nil w W) := by rw [hW]; exact (Kept.refl _ _).alloc _
  have HAW : Hid (W.heap[A]? = some (.cells #[.int .i64 0, .int .i64 0, .int .i64 0] 104 (0, 0))) := by rw [hW, HAe.out]; exact blk_new _ _
  have SP := split_any l hl W (hL.kept KW.out)
  obtain ⟨W1, hW1⟩ : ∃ W1, W1 = W.alloc (.cells ((pcs l).map fun x => Value.string (bs x)).toArray 9) := ⟨_, rfl⟩
  obtain ⟨N, HN⟩ : ∃ N, Hid (N = W.heap.size) := ⟨_, rfl⟩
  obtain ⟨k, HK⟩ : ∃ k, Hid (k = (pcs l).length) := ⟨_, rfl⟩
  rw [← hW1, ← HN.out, ← HK.out] at SP
  have K1 : Hid (Kept Nil w W1) := by rw [hW1]; exact KW.out.alloc _
  have K10 : Hid (Kept Nil W1 W1) := Kept.refl _ _
  have HL1 : Hid (LD W1) := hL.kept K1.out
  have HA0 : Hid (W1.heap[A]? = some (.cells #[.int .i64 0, .int .i64 0, .int .i64 0] 104 (0, 0))) := by rw [hW1]; exact blk_past HAW.out _
  have HP : Hid (W1.heap[N]? = some (.cells ((pcs l).map fun x => Value.string (bs x)).toArray 9 (0, 0))) := by rw [hW1, HN.out]; exact blk_new _ _
  obtain ⟨x, rest, hp⟩ : ∃ x rest, pcs l = x :: rest := by
    cases h : pcs l with
    | nil => exact absurd h (pcs_ne l)
    | cons x rest => exact ⟨x, rest, rfl⟩
  have HPC : Hid (pcs l = x :: rest) := hp
  have HLx : Hid (x.length ≤ 281474976710656) := by
    have := pcs_len l x (by rw [hp]; simp)
    show _ ≤ _
    omega
  have q0 : W1.cell? ⟨N, 0, none⟩ = some (.string (bs x)) := blk_at HP.out 0 (by rw [hp]; rfl)
  have hk1 : 1 ≤ k := by rw [HK.out, hp]; simp
  have hk2 : k ≤ 9000000000000000000 := by
    have h1 := count_pcs l
    have h2 := Lib.count_le l [32]
    have h3 := HK.out
    omega
  have HLl : Hid (l.length ≤ 281474976710656) := by show _ ≤ _; omega
  clear hp HAW hL hl
  have RN := readNumber_any x 0 999999999 HLx.out W1 (HL1.out.kept K10.out)
  obtain ⟨b0, Hb0⟩ : ∃ b0 : Bool, Hid (b0 = isNumB 0 999999999 x (Lib.atoiAll x)) := ⟨_, rfl⟩
  rw [← Hb0.out] at RN
  go_enter Tryz.func72, Tryz.ntmps72
  go_wp2_with fail
  rw [← hW, ← HAe.out]
  clear hW hW1
  go_fit SP
  clear SP
  rintro _ wq ⟨rfl, hwq⟩
  rw [hwq]
  clear hwq wq
  go_wp2_with fail
  go_fit RN
  rintro _ w2 ⟨v0, rfl, hv0, kw2⟩
  have K2 : Hid (Kept Nil w w2) := K1.out.trans kw2
  have K20 : Hid (Kept Nil W1 w2) := K10.out.trans kw2
  have Hv0 : Hid (Lib.atoiAll x = .ok v0 ∨ b0 = false) := hv0
  clear RN kw2 hv0
  cases b0 with
  | false =>
    obtain rfl : h = Hd.no := HH.out.trans (hdOf_bad0 HPC.out (amt_zero Hb0.out.symm))
    have BR : w2.heap[A]? = some (.cells #[.int .i64 0, .int .i64 0, .int .i64 0] 104 (0, 0)) := K20.out.block _ _ HA0.out (fun x => x.elim)
    have r0 : w2.cell? ⟨A, 0, none⟩ = some (.int .i64 0) := blk_at BR 0 rfl
    have z0 : w2.frozen? ⟨A, 0, none⟩ = false := blk_free BR 0
    have r1 : w2.cell? ⟨A, 1, none⟩ = some (.int .i64 0) := blk_at BR 1 rfl
    have z1 : w2.frozen? ⟨A, 1, none⟩ = false := blk_free BR 1
    have r2 : w2.cell? ⟨A, 2, none⟩ = some (.int .i64 0) := blk_at BR 2 rfl
    have z2 : w2.frozen? ⟨A, 2, none⟩ = false := blk_free BR 2
    obtain ⟨V, hV⟩ : ∃ V, V = ((w2.setCell ⟨A, 0, none⟩ (.int .i64 0)).setCell ⟨A, 1, none⟩ (.int .i64 0)).setCell ⟨A, 2, none⟩ (.int .i64 0) := ⟨_, rfl⟩
    have HV : Hid (V.heap[A]? = some (.cells #[.int .i64 0, .int .i64 0, .int .i64 0] 104 (0, 0)) ∧ Kept Nil w V) := by rw [hV]; exact ⟨blk_set (blk_set (blk_set BR 0 _) 1 _) 2 _, ((K2.out.setNew (p := ⟨A, 0, none⟩) HAw.out _).setNew (p := ⟨A, 1, none⟩) HAw.out _).setNew (p := ⟨A, 2, none⟩) HAw.out _⟩
    clear BR
    go_wp2
    rw [← hV]
    clear hV r0 r1 r2
    have j0 := blk_at HV.out.1 0 rfl
    have j1 := blk_at HV.out.1 1 rfl
    have j2 := blk_at HV.out.1 2 rfl
    exact bodyPost_ret (v := .agg #[.int .i64 0, .int .i64 0, .int .i64 0]) (by simp [results, Tryz.results72, go_sem, j0, j1, j2]) rfl ⟨rfl, HV.out.2⟩
  | true =>
    obtain ⟨n, rfl, hn⟩ := amt_true Hb0.out.symm (Hv0.out.resolve_right (by decide))
    have HNn : Hid (amt MA x = some n) := hn
    clear hn
    by_cases c1 : k = 1
    · have HPx : Hid (pcs l = [x]) := by
        have h1 := HK.out
        have h2 := HPC.out
        show _ = _
        rw [c1, h2] at h1
        cases rest with
        | nil => exact h2
        | cons _ _ => simp at h1
      obtain rfl : h = ⟨n, 0, 0⟩ := HH.out.trans (hdOf_one HPx.out HNn.out)
      subst c1
      have BR : w2.heap[A]? = some (.cells #[.int .i64 0, .int .i64 0, .int .i64 0] 104 (0, 0)) := K20.out.block _ _ HA0.out (fun x => x.elim)
      have r0 : w2.cell? ⟨A, 0, none⟩ = some (.int .i64 0) := blk_at BR 0 rfl
      have z0 : w2.frozen? ⟨A, 0, none⟩ = false := blk_free BR 0
      have r1 : w2.cell? ⟨A, 1, none⟩ = some (.int .i64 0) := blk_at BR 1 rfl
      have z1 : w2.frozen? ⟨A, 1, none⟩ = false := blk_free BR 1
      have r2 : w2.cell? ⟨A, 2, none⟩ = some (.int .i64 0) := blk_at BR 2 rfl
      have z2 : w2.frozen? ⟨A, 2, none⟩ = false := blk_free BR 2
      obtain ⟨V, hV⟩ : ∃ V, V = ((w2.setCell ⟨A, 0, none⟩ (.int .i64 n)).setCell ⟨A, 1, none⟩ (.int .i64 0)).setCell ⟨A, 2, none⟩ (.int .i64 0) := ⟨_, rfl⟩
      have HV : Hid (V.heap[A]? = some (.cells #[.int .i64 n, .int .i64 0, .int .i64 0] 104 (0, 0)) ∧ Kept Nil w V) := by rw [hV]; exact ⟨blk_set (blk_set (blk_set BR 0 _) 1 _) 2 _, ((K2.out.setNew (p := ⟨A, 0, none⟩) HAw.out _).setNew (p := ⟨A, 1, none⟩) HAw.out _).setNew (p := ⟨A, 2, none⟩) HAw.out _⟩
      clear BR
      go_wp2
      rw [← hV]
      clear hV r0 r1 r2
      have j0 := blk_at HV.out.1 0 rfl
      have j1 := blk_at HV.out.1 1 rfl
      have j2 := blk_at HV.out.1 2 rfl
      exact bodyPost_ret (v := .agg #[.int .i64 n, .int .i64 0, .int .i64 0]) (by simp [results, Tryz.results72, go_sem, j0, j1, j2]) rfl ⟨rfl, HV.out.2⟩
    · by_cases c3 : k = 3
      · obtain ⟨y, z, hyz⟩ : ∃ y z, pcs l = [x, y, z] := by
          have h1 := HK.out
          have h2 := HPC.out
          rw [c3, h2] at h1
          match rest, h2, h1 with
          | [y, z], h2, _ => exact ⟨y, z, h2⟩
          | [], _, h1 => simp at h1
          | [_], _, h1 => simp at h1
          | _ :: _ :: _ :: _, _, h1 => simp at h1
        have HYZ : Hid (pcs l = [x, y, z]) := hyz
        have BP : w2.heap[N]? = some (.cells ((pcs l).map fun x => Value.string (bs x)).toArray 9 (0, 0)) := K20.out.block _ _ HP.out (fun x => x.elim)
        have q1 : w2.cell? ⟨N, 1, none⟩ = some (.string (bs y)) := blk_at BP 1 (by rw [hyz]; rfl)
        have HLy : Hid (y.length ≤ 281474976710656) := Nat.le_trans (pcs_len l y (by rw [hyz]; simp)) HLl.out
        have HLz : Hid (z.length ≤ 281474976710656) := Nat.le_trans (pcs_len l z (by rw [hyz]; simp)) HLl.out
        clear BP hyz
        subst c3
        have RN1 := readNumber_any y 1 999 HLy.out w2 (HL1.out.kept K20.out)
        obtain ⟨b1, Hb1⟩ : ∃ b1 : Bool, Hid (b1 = isNumB 1 999 y (Lib.atoiAll y)) := ⟨_, rfl⟩
        rw [← Hb1.out] at RN1
        go_wp2_with fail
        go_fit RN1
        rintro _ w3 ⟨v1, rfl, hv1, kw3⟩
        have K3 : Hid (Kept Nil w w3) := K2.out.trans kw3
        have K30 : Hid (Kept Nil W1 w3) := K20.out.trans kw3
        have Hv1 : Hid (Lib.atoiAll y = .ok v1 ∨ b1 = false) := hv1
        clear RN1 kw3 hv1
        have q2 : w3.cell? ⟨N, 2, none⟩ = some (.string (bs z)) := blk_at (K30.out.block _ _ HP.out (fun x => x.elim)) 2 (by rw [HYZ.out]; rfl)
        have RN2 := readNumber_any z 0 999999999 HLz.out w3 (HL1.out.kept K30.out)
        obtain ⟨b2, Hb2⟩ : ∃ b2 : Bool, Hid (b2 = isNumB 0 999999999 z (Lib.atoiAll z)) := ⟨_, rfl⟩
        rw [← Hb2.out] at RN2
        go_wp2_with fail
        go_fit RN2
        rintro _ w4 ⟨v2, rfl, hv2, kw4⟩
        have K4 : Hid (Kept Nil w w4) := K3.out.trans kw4
        have K40 : Hid (Kept Nil W1 w4) := K30.out.trans kw4
        have Hv2 : Hid (Lib.atoiAll z = .ok v2 ∨ b2 = false) := hv2
        clear RN2 kw4 hv2
        cases b1 with
        | false =>
          obtain rfl : h = Hd.no := HH.out.trans (hdOf_bad1 HYZ.out Hb1.out.symm)
          have BR : w4.heap[A]? = some (.cells #[.int .i64 0, .int .i64 0, .int .i64 0] 104 (0, 0)) := K40.out.block _ _ HA0.out (fun x => x.elim)
          have r0 : w4.cell? ⟨A, 0, none⟩ = some (.int .i64 0) := blk_at BR 0 rfl
          have z0 : w4.frozen? ⟨A, 0, none⟩ = false := blk_free BR 0
          have r1 : w4.cell? ⟨A, 1, none⟩ = some (.int .i64 0) := blk_at BR 1 rfl
          have z1 : w4.frozen? ⟨A, 1, none⟩ = false := blk_free BR 1
          have r2 : w4.cell? ⟨A, 2, none⟩ = some (.int .i64 0) := blk_at BR 2 rfl
          have z2 : w4.frozen? ⟨A, 2, none⟩ = false := blk_free BR 2
          obtain ⟨V, hV⟩ : ∃ V, V = ((w4.setCell ⟨A, 0, none⟩ (.int .i64 0)).setCell ⟨A, 1, none⟩ (.int .i64 0)).setCell ⟨A, 2, none⟩ (.int .i64 0) := ⟨_, rfl⟩
          have HV : Hid (V.heap[A]? = some (.cells #[.int .i64 0, .int .i64 0, .int .i64 0] 104 (0, 0)) ∧ Kept Nil w V) := by rw [hV]; exact ⟨blk_set (blk_set (blk_set BR 0 _) 1 _) 2 _, ((K4.out.setNew (p := ⟨A, 0, none⟩) HAw.out _).setNew (p := ⟨A, 1, none⟩) HAw.out _).setNew (p := ⟨A, 2, none⟩) HAw.out _⟩
          clear BR
          go_wp2
          rw [← hV]
          clear hV r0 r1 r2
          have j0 := blk_at HV.out.1 0 rfl
          have j1 := blk_at HV.out.1 1 rfl
          have j2 := blk_at HV.out.1 2 rfl
          exact bodyPost_ret (v := .agg #[.int .i64 0, .int .i64 0, .int .i64 0]) (by simp [results, Tryz.results72, go_sem, j0, j1, j2]) rfl ⟨rfl, HV.out.2⟩
        | true =>
          cases b2 with
          | false =>
            obtain rfl : h = Hd.no := HH.out.trans (hdOf_bad2 HYZ.out (amt_zero Hb2.out.symm))
            have BR : w4.heap[A]? = some (.cells #[.int .i64 0, .int .i64 0, .int .i64 0] 104 (0, 0)) := K40.out.block _ _ HA0.out (fun x => x.elim)
            have r0 : w4.cell? ⟨A, 0, none⟩ = some (.int .i64 0) := blk_at BR 0 rfl
            have z0 : w4.frozen? ⟨A, 0, none⟩ = false := blk_free BR 0
            have r1 : w4.cell? ⟨A, 1, none⟩ = some (.int .i64 0) := blk_at BR 1 rfl
            have z1 : w4.frozen? ⟨A, 1, none⟩ = false := blk_free BR 1
            have r2 : w4.cell? ⟨A, 2, none⟩ = some (.int .i64 0) := blk_at BR 2 rfl
            have z2 : w4.frozen? ⟨A, 2, none⟩ = false := blk_free BR 2
            obtain ⟨V, hV⟩ : ∃ V, V = ((w4.setCell ⟨A, 0, none⟩ (.int .i64 0)).setCell ⟨A, 1, none⟩ (.int .i64 0)).setCell ⟨A, 2, none⟩ (.int .i64 0) := ⟨_, rfl⟩
            have HV : Hid (V.heap[A]? = some (.cells #[.int .i64 0, .int .i64 0, .int .i64 0] 104 (0, 0)) ∧ Kept Nil w V) := by rw [hV]; exact ⟨blk_set (blk_set (blk_set BR 0 _) 1 _) 2 _, ((K4.out.setNew (p := ⟨A, 0, none⟩) HAw.out _).setNew (p := ⟨A, 1, none⟩) HAw.out _).setNew (p := ⟨A, 2, none⟩) HAw.out _⟩
            clear BR
            go_wp2
            rw [← hV]
            clear hV r0 r1 r2
            have j0 := blk_at HV.out.1 0 rfl
            have j1 := blk_at HV.out.1 1 rfl
            have j2 := blk_at HV.out.1 2 rfl
            exact bodyPost_ret (v := .agg #[.int .i64 0, .int .i64 0, .int .i64 0]) (by simp [results, Tryz.results72, go_sem, j0, j1, j2]) rfl ⟨rfl, HV.out.2⟩
          | true =>
            obtain ⟨t, rfl, ht⟩ := amt_true Hb2.out.symm (Hv2.out.resolve_right (by decide))
            obtain ⟨b, rfl, he⟩ := hdOf_three HYZ.out HNn.out Hb1.out.symm (Hv1.out.resolve_right (by decide)) ht
            obtain rfl : h = ⟨n, b, t⟩ := HH.out.trans he
            clear ht he
            have BR : w4.heap[A]? = some (.cells #[.int .i64 0, .int .i64 0, .int .i64 0] 104 (0, 0)) := K40.out.block _ _ HA0.out (fun x => x.elim)
            have r0 : w4.cell? ⟨A, 0, none⟩ = some (.int .i64 0) := blk_at BR 0 rfl
            have z0 : w4.frozen? ⟨A, 0, none⟩ = false := blk_free BR 0
            have r1 : w4.cell? ⟨A, 1, none⟩ = some (.int .i64 0) := blk_at BR 1 rfl
            have z1 : w4.frozen? ⟨A, 1, none⟩ = false := blk_free BR 1
            have r2 : w4.cell? ⟨A, 2, none⟩ = some (.int .i64 0) := blk_at BR 2 rfl
            have z2 : w4.frozen? ⟨A, 2, none⟩ = false := blk_free BR 2
            obtain ⟨V, hV⟩ : ∃ V, V = ((w4.setCell ⟨A, 0, none⟩ (.int .i64 n)).setCell ⟨A, 1, none⟩ (.int .i64 b)).setCell ⟨A, 2, none⟩ (.int .i64 t) := ⟨_, rfl⟩
            have HV : Hid (V.heap[A]? = some (.cells #[.int .i64 n, .int .i64 b, .int .i64 t] 104 (0, 0)) ∧ Kept Nil w V) := by rw [hV]; exact ⟨blk_set (blk_set (blk_set BR 0 _) 1 _) 2 _, ((K4.out.setNew (p := ⟨A, 0, none⟩) HAw.out _).setNew (p := ⟨A, 1, none⟩) HAw.out _).setNew (p := ⟨A, 2, none⟩) HAw.out _⟩
            clear BR
            go_wp2
            rw [← hV]
            clear hV r0 r1 r2
            have j0 := blk_at HV.out.1 0 rfl
            have j1 := blk_at HV.out.1 1 rfl
            have j2 := blk_at HV.out.1 2 rfl
            exact bodyPost_ret (v := .agg #[.int .i64 n, .int .i64 b, .int .i64 t]) (by simp [results, Tryz.results72, go_sem, j0, j1, j2]) rfl ⟨rfl, HV.out.2⟩
      · obtain rfl : h = Hd.no := HH.out.trans (hdOf_len HPC.out (by rw [← HK.out]; exact c1) (by rw [← HK.out]; exact c3))
        have BR : w2.heap[A]? = some (.cells #[.int .i64 0, .int .i64 0, .int .i64 0] 104 (0, 0)) := K20.out.block _ _ HA0.out (fun x => x.elim)
        have r0 : w2.cell? ⟨A, 0, none⟩ = some (.int .i64 0) := blk_at BR 0 rfl
        have z0 : w2.frozen? ⟨A, 0, none⟩ = false := blk_free BR 0
        have r1 : w2.cell? ⟨A, 1, none⟩ = some (.int .i64 0) := blk_at BR 1 rfl
        have z1 : w2.frozen? ⟨A, 1, none⟩ = false := blk_free BR 1
        have r2 : w2.cell? ⟨A, 2, none⟩ = some (.int .i64 0) := blk_at BR 2 rfl
        have z2 : w2.frozen? ⟨A, 2, none⟩ = false := blk_free BR 2
        obtain ⟨V, hV⟩ : ∃ V, V = ((w2.setCell ⟨A, 0, none⟩ (.int .i64 0)).setCell ⟨A, 1, none⟩ (.int .i64 0)).setCell ⟨A, 2, none⟩ (.int .i64 0) := ⟨_, rfl⟩
        have HV : Hid (V.heap[A]? = some (.cells #[.int .i64 0, .int .i64 0, .int .i64 0] 104 (0, 0)) ∧ Kept Nil w V) := by rw [hV]; exact ⟨blk_set (blk_set (blk_set BR 0 _) 1 _) 2 _, ((K2.out.setNew (p := ⟨A, 0, none⟩) HAw.out _).setNew (p := ⟨A, 1, none⟩) HAw.out _).setNew (p := ⟨A, 2, none⟩) HAw.out _⟩
        clear BR
        go_wp2
        rw [← hV]
        clear hV r0 r1 r2
        have j0 := blk_at HV.out.1 0 rfl
        have j1 := blk_at HV.out.1 1 rfl
        have j2 := blk_at HV.out.1 2 rfl
        exact bodyPost_ret (v := .agg #[.int .i64 0, .int .i64 0, .int .i64 0]) (by simp [results, Tryz.results72, go_sem, j0, j1, j2]) rfl ⟨rfl, HV.out.2⟩
end Go.Proofs.YtflnjlbafchnaaaGreatDoor

/-
  Transactions: the small functions of the program: said, settled, the keys, a Get.
-/
namespace Go.Proofs.YtflnjlbafchnaaaGreatDoor
open Go.RowKit

/-- The value that a result tells. -/
def saidR (r : Rr) : List UInt8 := if r.kd = 1 then r.v else []
def kKey (k : List UInt8) : List UInt8 := 107 :: k
def tKey (n : Nat) : List UInt8 := 116 :: Lib.decDigits n
def Hd.settled (h : Hd) (d : Bool) : Nat := if d = true ∧ 0 < h.b then h.t else h.n

set_option maxRecDepth 100000 in
set_option maxHeartbeats 1000000 in
theorem said_any (r : Rr) (ko : Option Addr) (kc : Nat) (w : World) :
    Calls Tryz.prog 73 #[rrV r ko kc] w fun e w' => e = .returned (.string (bs (saidR r))) ∧ Kept Nil w w' := by
  obtain ⟨s, HS⟩ : ∃ s, Hid (s = saidR r) := ⟨_, rfl⟩
  rw [← HS.out]
  obtain ⟨kd, v, n, ks⟩ := r
  unfold rrV
  by_cases c : kd = 1
  · obtain rfl : s = v := by rw [HS.out]; unfold saidR; simp [c]
    subst c
    go_enter Tryz.func73, Tryz.ntmps73
    go_wp2
    go_ret
    exact ⟨rfl, (Kept.refl _ _).alloc _⟩
  · obtain rfl : s = [] := by rw [HS.out]; unfold saidR; simp [c]
    go_enter Tryz.func73, Tryz.ntmps73
    go_wp2
    go_ret
    exact ⟨rfl, (Kept.refl _ _).alloc _⟩

set_option maxRecDepth 100000 in
set_option maxHeartbeats 1000000 in
theorem settled_any (h : Hd) (d : Bool) (w : World) :
    Calls Tryz.prog 54 #[.agg #[.int .i64 h.n, .int .i64 h.b, .int .i64 h.t], .bool d] w fun e w' => e = .returned (.int .i64 (h.settled d)) ∧ Kept Nil w w' := by
  obtain ⟨s, HS⟩ : ∃ s, Hid (s = h.settled d) := ⟨_, rfl⟩
  rw [← HS.out]
  obtain ⟨n, b, t⟩ := h
  cases d with
  | false =>
    obtain rfl : s = n := by rw [HS.out]; unfold Hd.settled; simp
    go_enter Tryz.func54, Tryz.ntmps54
    go_wp2
    go_ret
    exact ⟨rfl, (Kept.refl _ _).alloc _⟩
  | true =>
    by_cases c : 0 < b
    · obtain rfl : s = t := by rw [HS.out]; unfold Hd.settled; simp [c]
      have c' : (0 : Int) < (b : Int) := by omega
      go_enter Tryz.func54, Tryz.ntmps54
      go_wp2
      go_ret
      exact ⟨rfl, (Kept.refl _ _).alloc _⟩
    · obtain rfl : s = n := by rw [HS.out]; unfold Hd.settled; simp [c]
      have c' : ¬ (0 : Int) < (b : Int) := by omega
      go_enter Tryz.func54, Tryz.ntmps54
      go_wp2
      go_ret
      exact ⟨rfl, (Kept.refl _ _).alloc _⟩

set_option maxRecDepth 100000 in
set_option maxHeartbeats 1000000 in
theorem amountKey_any (k : List UInt8) (hk : k.length ≤ 140737488355328) (w : World) :
    Calls Tryz.prog 75 #[.string (bs k)] w fun e w' => e = .returned (.string (bs (kKey k))) ∧ w' = w := by
  have he : (⟨#[107]⟩ : ByteArray) ++ bs k = bs (kKey k) := bs_append [107] k
  have hz : (bs k).size = k.length := bs_size k
  go_enter Tryz.func75, Tryz.ntmps75
  go_wp2
  go_ret
  exact ⟨rfl, rfl⟩

set_option maxRecDepth 100000 in
set_option maxHeartbeats 1000000 in
theorem recordKey_any (n : Nat) (hn : n ≤ 999999999) (w : World) (hL : LD w) :
    Calls Tryz.prog 49 #[.int .i64 n] w fun e w' => e = .returned (.string (bs (tKey n))) ∧ Kept Nil w w' := by
  have he : (⟨#[116]⟩ : ByteArray) ++ bs (Lib.decDigits n) = bs (tKey n) := bs_append [116] _
  have hz : (bs (Lib.decDigits n)).size ≤ 9 := by rw [bs_size]; exact digits_len9 hn
  have IT := itoa_any n (by omega) (by omega) w hL
  rw [itoa_nat] at IT
  go_enter Tryz.func49, Tryz.ntmps49
  go_wp2_with fail
  go_fit IT
  rintro _ w1 ⟨rfl, k1⟩
  have K1 : Hid (Kept Nil w w1) := k1
  clear k1
  go_wp2
  go_ret
  exact ⟨rfl, K1.out⟩

set_option maxRecDepth 100000 in
set_option maxHeartbeats 1000000 in
theorem getCommand_any (k : List UInt8) (w : World) :
    Calls Tryz.prog 50 #[.string (bs k)] w fun e w' => e = .returned (.agg #[.int .i64 2, .string (bs k), .string (bs []), .int .i64 0]) ∧ Kept Nil w w' := by
  go_enter Tryz.func50, Tryz.ntmps50
  go_wp2
  exact bodyPost_ret (v := .agg #[.int .i64 2, .string (bs k), .string (bs []), .int .i64 0]) (by simp [results, Tryz.results50, go_sem, bs]) rfl ⟨rfl, (Kept.refl _ _).alloc _⟩
end Go.Proofs.YtflnjlbafchnaaaGreatDoor

/-
  Transactions: get, Number (the program).
-/
namespace Go.Proofs.YtflnjlbafchnaaaGreatDoor
open Go.RowKit

def GtPost (w : World) (r : Rr) (e : Ending) (w' : World) : Prop := ∃ ko kc, e = .returned (rrV r ko kc) ∧ Kept Nil w w'
set_option maxRecDepth 100000 in
set_option maxHeartbeats 2000000 in
theorem get_any (B c : Nat) (ao : Option Addr) (ps : List Pr) (key : List UInt8) (w : World) (h : PairRow B w ao ps) (hn : ao = none → ps = [] ∧ c = 0) (hl : (ps.length : Int) ≤ 3518437208780) (hk : key.length ≤ maxLen) :
    Calls Tryz.prog 74 #[.slice ao ps.length c, .string (bs key)] w (GtPost w (apR 2 key [] 0 ps)) := by
  obtain ⟨r, HR⟩ : ∃ r, Hid (r = apR 2 key [] 0 ps) := ⟨_, rfl⟩
  rw [← HR.out]
  obtain ⟨W, hW⟩ : ∃ W, W = w.alloc (.cells #[.int .i64 0, .string ⟨#[]⟩, .int .i64 0, .slice none 0 0] 50) := ⟨_, rfl⟩
  obtain ⟨A, HAe⟩ : ∃ A, Hid (A = w.heap.size) := ⟨_, rfl⟩
  have HAw : Hid (w.heap.size ≤ A) := by show _ ≤ _; rw [HAe.out]; exact Nat.le_refl _
  have KW : Hid (Kept Nil w W) := by rw [hW]; exact (Kept.refl _ _).alloc _
  have HAW : Hid (W.heap[A]? = some (.cells #[.int .i64 0, .string ⟨#[]⟩, .int .i64 0, .slice none 0 0] 50 (0, 0))) := by rw [hW, HAe.out]; exact blk_new _ _
  have HP : Hid (PairRow B w ao ps) := h
  have HNn : Hid (ao = none → ps = [] ∧ c = 0) := hn
  have HKk : Hid (key.length ≤ maxLen) := hk
  have GC := getCommand_any key W
  clear h hn hk
  go_enter Tryz.func74, Tryz.ntmps74
  go_wp2_with fail
  rw [← hW, ← HAe.out]
  clear hW
  go_fit GC
  clear GC
  rintro _ w1 ⟨rfl, k1⟩
  have K1 : Hid (Kept Nil w w1) := KW.out.trans k1
  have HA1 : Hid (w1.heap[A]? = some (.cells #[.int .i64 0, .string ⟨#[]⟩, .int .i64 0, .slice none 0 0] 50 (0, 0))) := k1.block _ _ HAW.out (fun x => x.elim)
  clear k1
  have AP := apply_any B c ao ps key [] 2 0 w1 (HP.out.nil K1.out) HNn.out hl HKk.out (Nat.zero_le _)
  rw [← HR.out] at AP
  go_wp2_with fail
  go_fit AP
  clear AP
  rintro _ w2 ⟨a2, c2, ko, kc, rfl, _, _, k2⟩
  unfold rrV
  have K2 : Hid (Kept Nil w w2) := K1.out.trans k2
  have BR : w2.heap[A]? = some (.cells #[.int .i64 0, .string ⟨#[]⟩, .int .i64 0, .slice none 0 0] 50 (0, 0)) := k2.block _ _ HA1.out (fun x => x.elim)
  clear k2
  have r0 : w2.cell? ⟨A, 0, none⟩ = some (.int .i64 0) := blk_at BR 0 rfl
  have r1 : w2.cell? ⟨A, 1, none⟩ = some (.string ⟨#[]⟩) := blk_at BR 1 rfl
  have r2 : w2.cell? ⟨A, 2, none⟩ = some (.int .i64 0) := blk_at BR 2 rfl
  have r3 : w2.cell? ⟨A, 3, none⟩ = some (.slice none 0 0) := blk_at BR 3 rfl
  have z0 : w2.frozen? ⟨A, 0, none⟩ = false := blk_free BR 0
  have z1 : w2.frozen? ⟨A, 1, none⟩ = false := blk_free BR 1
  have z2 : w2.frozen? ⟨A, 2, none⟩ = false := blk_free BR 2
  have z3 : w2.frozen? ⟨A, 3, none⟩ = false := blk_free BR 3
  have hlt : A < w2.heap.size := lt_of_block BR
  obtain ⟨V, hV⟩ : ∃ V, V = (((w2.setCell ⟨A, 0, none⟩ (.int .i64 r.kd)).setCell ⟨A, 1, none⟩ (.string (bs r.v))).setCell ⟨A, 2, none⟩ (.int .i64 r.n)).setCell ⟨A, 3, none⟩ (.slice ko r.ks.length kc) := ⟨_, rfl⟩
  have HV : Hid (V.heap[A]? = some (.cells #[.int .i64 r.kd, .string (bs r.v), .int .i64 r.n, .slice ko r.ks.length kc] 50 (0, 0)) ∧ Kept Nil w V) := by
    rw [hV]
    exact ⟨blk_set (blk_set (blk_set (blk_set BR 0 _) 1 _) 2 _) 3 _, (((K2.out.setNew (p := ⟨A, 0, none⟩) HAw.out _).setNew (p := ⟨A, 1, none⟩) HAw.out _).setNew (p := ⟨A, 2, none⟩) HAw.out _).setNew (p := ⟨A, 3, none⟩) HAw.out _⟩
  clear BR
  go_wp2
  rw [← hV]
  clear hV r0 r1 r2 r3 z0 z1 z2 z3
  have j0 := blk_at (blk_past HV.out.1 (.cells #[.int .i64 r.kd, .string (bs r.v), .int .i64 r.n, .slice ko r.ks.length kc] 50)) 0 rfl
  have j1 := blk_at (blk_past HV.out.1 (.cells #[.int .i64 r.kd, .string (bs r.v), .int .i64 r.n, .slice ko r.ks.length kc] 50)) 1 rfl
  have j2 := blk_at (blk_past HV.out.1 (.cells #[.int .i64 r.kd, .string (bs r.v), .int .i64 r.n, .slice ko r.ks.length kc] 50)) 2 rfl
  have j3 := blk_at (blk_past HV.out.1 (.cells #[.int .i64 r.kd, .string (bs r.v), .int .i64 r.n, .slice ko r.ks.length kc] 50)) 3 rfl
  exact bodyPost_ret (v := .agg #[.int .i64 r.kd, .string (bs r.v), .int .i64 r.n, .slice ko r.ks.length kc]) (by simp [results, Tryz.results74, go_sem, j0, j1, j2, j3]) rfl ⟨ko, kc, rfl, HV.out.2.alloc _⟩

/-- What a map says of a key; a key's number in it. -/
def tells (ps : List Pr) (key : List UInt8) : List UInt8 := saidR (apR 2 key [] 0 ps)
def wDone : List UInt8 := [100, 111, 110, 101]
def numOf (ps : List Pr) (key : List UInt8) : Nat := (hdOf (tells ps (kKey key))).settled (decide (tells ps (tKey (hdOf (tells ps (kKey key))).b) = wDone))
theorem tells_len {ps : List Pr} {key : List UInt8} : (tells ps key).length ≤ 64 := by
  unfold tells saidR apR
  by_cases h : (pairsOk ps && isCmd 2 key [] 0) = true
  · rw [if_pos h]
    rw [Bool.and_eq_true] at h
    have := (spot_ok h.1 key).2.2.2
    unfold doR tellRr
    simp only [show ¬ (2 : Int) = 1 by decide, if_false, if_true]
    by_cases hz : spotN key ps = 0
    · simp [hz]
    · simp [hz, this]
  · rw [if_neg h]
    simp
set_option maxRecDepth 100000 in
set_option maxHeartbeats 4000000 in
theorem number_any (B c : Nat) (ao : Option Addr) (ps : List Pr) (key : List UInt8) (w : World) (hL : LD w) (h : PairRow B w ao ps) (hn : ao = none → ps = [] ∧ c = 0) (hl : (ps.length : Int) ≤ 3518437208780) (hk : key.length ≤ 140737488355328) :
    Calls Tryz.prog 23 #[.slice ao ps.length c, .string (bs key)] w fun e w' => e = .returned (.int .i64 (numOf ps key)) ∧ Kept Nil w w' := by
  obtain ⟨z, HZ⟩ : ∃ z, Hid (z = numOf ps key) := ⟨_, rfl⟩
  rw [← HZ.out]
  have HL : Hid (LD w) := hL
  have GT : ∀ (k : List UInt8) (X : World), Kept Nil w X → k.length ≤ maxLen → Calls Tryz.prog 74 #[.slice ao ps.length c, .string (bs k)] X (GtPost X (apR 2 k [] 0 ps)) := fun k X kX hkl => get_any B c ao ps k X (h.nil kX) hn hl hkl
  have AK := amountKey_any key hk w
  have HK1 : Hid ((kKey key).length ≤ maxLen) := by show _ ≤ _; unfold kKey maxLen; simp; omega
  clear hL h hn hl hk
  go_enter Tryz.func23, Tryz.ntmps23
  go_wp2_with fail
  go_fit AK
  rintro _ wq ⟨rfl, hwq⟩
  rw [hwq]
  clear hwq wq AK
  have G1 := GT (kKey key) w (Kept.refl _ _) HK1.out
  go_wp2_with fail
  go_fit G1
  rintro _ w1 ⟨ko, kc, rfl, k1⟩
  have K1 : Hid (Kept Nil w w1) := k1
  clear k1 G1
  have SD := said_any (apR 2 (kKey key) [] 0 ps) ko kc w1
  go_wp2_with fail
  go_fit SD
  rintro _ w2 ⟨rfl, k2⟩
  have K2 : Hid (Kept Nil w w2) := K1.out.trans k2
  clear k2 SD K1
  have RD := read_any (tells ps (kKey key)) (by have := tells_len (ps := ps) (key := kKey key); omega) w2 (HL.out.kept K2.out)
  obtain ⟨g, HG⟩ : ∃ g, Hid (g = hdOf (tells ps (kKey key))) := ⟨_, rfl⟩
  rw [← HG.out] at RD
  have HO : Hid (g.Ok) := by show Hd.Ok _; rw [HG.out]; exact hdOf_ok _
  go_wp2_with fail
  go_fit RD
  rintro _ w3 ⟨rfl, k3⟩
  have K3 : Hid (Kept Nil w w3) := K2.out.trans k3
  clear k3 RD K2
  obtain ⟨W, hW⟩ : ∃ W, W = w3.alloc (.cells #[.int .i64 g.n, .int .i64 g.b, .int .i64 g.t] 104) := ⟨_, rfl⟩
  obtain ⟨A, HAe⟩ : ∃ A, Hid (A = w3.heap.size) := ⟨_, rfl⟩
  have KW : Hid (Kept Nil w W) := by rw [hW]; exact K3.out.alloc _
  have HAW : Hid (W.heap[A]? = some (.cells #[.int .i64 g.n, .int .i64 g.b, .int .i64 g.t] 104 (0, 0))) := by rw [hW, HAe.out]; exact blk_new _ _
  have SS : ∀ X, Kept Nil W X → X.cell? ⟨A, 0, none⟩ = some (.int .i64 g.n) ∧ X.cell? ⟨A, 1, none⟩ = some (.int .i64 g.b) ∧ X.cell? ⟨A, 2, none⟩ = some (.int .i64 g.t) := fun X kX =>
    ⟨blk_at (kX.block _ _ HAW.out (fun x => x.elim)) 0 rfl, blk_at (kX.block _ _ HAW.out (fun x => x.elim)) 1 rfl, blk_at (kX.block _ _ HAW.out (fun x => x.elim)) 2 rfl⟩
  have RK := recordKey_any g.b (by have := HO.out.b; omega) W.drew (HL.out.kept KW.out.drew)
  obtain ⟨r2, HR2⟩ : ∃ r2, Hid (r2 = apR 2 (tKey g.b) [] 0 ps) := ⟨_, rfl⟩
  have G2 : ∀ X, Kept Nil W X → Calls Tryz.prog 74 #[.slice ao ps.length c, .string (bs (tKey g.b))] X (GtPost X r2) := fun X kX => by
    rw [HR2.out]
    refine GT _ X (KW.out.trans kX) ?_
    have := digits_len9 (n := g.b) (by have := HO.out.b; omega)
    unfold tKey maxLen
    simp
    omega
  obtain ⟨d, HD⟩ : ∃ d : Bool, Hid (d = decide (tells ps (tKey g.b) = wDone)) := ⟨_, rfl⟩
  have HE : ((bs (saidR r2)).toList == ([100, 111, 110, 101] : List UInt8)) = d := by
    rw [bs_toList, HD.out, HR2.out]
    rw [Bool.eq_iff_iff]
    simp
    rfl
  have HZ2 : Hid (z = g.settled d) := by
    show _ = _
    rw [HZ.out, HD.out, HG.out]
    rfl
  have s0 := SS W (Kept.refl _ _)
  go_wp2_with fail
  rw [← hW, ← HAe.out]
  clear hW
  go_region_held3 (fun w' => w'.cell? ⟨A, 0, none⟩ = some (.int .i64 g.n) ∧ w'.cell? ⟨A, 1, none⟩ = some (.int .i64 g.b) ∧ w'.cell? ⟨A, 2, none⟩ = some (.int .i64 g.t)) (first | assumption | go_keep) (first | (go_at_call 49; go_must (go_fit RK; rintro e wa ⟨rfl, ka⟩; have Ka : Hid (Kept Nil W wa) := ((Kept.refl _ _).drew).trans ka; have sa := SS wa Ka.out; have Ga := G2 wa Ka.out)) | (go_at_call 74; go_must (go_fit Ga; rintro e wb ⟨ko2, kc2, rfl, kb⟩; have Kb : Hid (Kept Nil W wb) := Ka.out.trans kb; have sb := SS wb Kb.out; have Sb := said_any r2 ko2 kc2 wb)) | (go_at_call 73; go_must (go_fit Sb; rintro e wc ⟨rfl, kc⟩; have Kc : Hid (Kept Nil W wc) := Kb.out.trans kc; have sc := SS wc Kc.out; have Tc := settled_any g d wc)) | (go_at_call 54; go_must (go_fit Tc; rintro e we ⟨rfl, ke⟩; have Ke : Hid (Kept Nil W we) := Kc.out.trans ke; have se := SS we Ke.out)))
  go_wp2
  go_ret
  exact ⟨by rw [HZ2.out]; rfl, KW.out.trans Ke.out⟩
end Go.Proofs.YtflnjlbafchnaaaGreatDoor

/-
  Transactions, plainly: what a Get tells and a Swap makes of what stands under the keys.
-/
namespace Go.Proofs.YtflnjlbafchnaaaGreatDoor

theorem spot_abs {key : List UInt8} {ps : List Pr} (h : ∀ p ∈ ps, p.k ≠ key) : spotV key ps = [] ∧ spotN key ps = 0 := by
  have ht : isThere key ps = false := by
    cases ht : isThere key ps with
    | false => rfl
    | true =>
      obtain ⟨hl, e, _⟩ := there_at ht
      exact absurd e (h _ (List.getElem_mem hl))
  unfold spotV spotN
  rw [ht]
  simp
/-- Two maps that have the same pairs under a key say the same of it. -/
theorem spot_same {key : List UInt8} {ps qs : List Pr} (hp : Srt ps) (hq : Srt qs) (h : ∀ p : Pr, p.k = key → (p ∈ ps ↔ p ∈ qs)) : spotV key qs = spotV key ps ∧ spotN key qs = spotN key ps := by
  by_cases hc : ∃ p ∈ ps, p.k = key
  · obtain ⟨p, hm, e⟩ := hc
    have h1 := spot_at hp hm e
    have h2 := spot_at hq ((h p e).1 hm) e
    exact ⟨by rw [h1.1, h2.1], by rw [h1.2, h2.2]⟩
  · have h1 := spot_abs (key := key) (ps := ps) (fun p hm e => hc ⟨p, hm, e⟩)
    have h2 := spot_abs (key := key) (ps := qs) (fun p hm e => hc ⟨p, (h p e).2 hm, e⟩)
    exact ⟨by rw [h1.1, h2.1], by rw [h1.2, h2.2]⟩
/-- A Get. -/
theorem get_ap {ps : List Pr} {key : List UInt8} (hok : pairsOk ps = true) (hc : isCmd 2 key [] 0 = true) : apP 2 key [] 0 ps = ps ∧ apR 2 key [] 0 ps = (if spotN key ps = 0 then ⟨2, [], 0, []⟩ else ⟨1, spotV key ps, spotN key ps, []⟩) := by
  unfold apP apR
  rw [hok, hc]
  exact ⟨rfl, rfl⟩
theorem get_tells {ps : List Pr} {key : List UInt8} (hok : pairsOk ps = true) (hc : isCmd 2 key [] 0 = true) : tells ps key = spotV key ps := by
  unfold tells
  rw [(get_ap hok hc).2]
  by_cases hz : spotN key ps = 0
  · rw [if_pos hz]
    have : isThere key ps = false := by
      cases ht : isThere key ps with
      | false => rfl
      | true => exact absurd hz ((spot_ok hok key).2.1.2 ht)
    unfold spotV
    rw [this]
    rfl
  · rw [if_neg hz]
    rfl
/-- A Swap that finds another version: nothing is done. -/
theorem swap_no {ps : List Pr} {key val : List UInt8} {m : Int} (hok : pairsOk ps = true) (hc : isCmd 4 key val m = true) (hn : spotN key ps ≠ m) : apP 4 key val m ps = ps ∧ (apR 4 key val m ps).kd ≠ 1 := by
  unfold apP apR
  rw [hok, hc]
  refine ⟨?_, ?_⟩
  · show swapP key val m (spotN key ps) (lowP key ps) ps = ps
    unfold swapP
    rw [if_neg hn]
  · show (swapRr val (spotV key ps) m (spotN key ps) ps.length).kd ≠ 1
    unfold swapRr
    rw [if_neg hn]
    unfold tellRr
    split <;> simp
structure SwapOk (ps qs : List Pr) (key val : List UInt8) (m : Int) : Prop where
  ok : pairsOk qs = true
  v : spotV key qs = val
  n : spotN key qs = m + 1
  oth : ∀ k, k ≠ key → spotV k qs = spotV k ps ∧ spotN k qs = spotN k ps
  mem : ∀ p ∈ qs, p.k = key ∨ ∃ q ∈ ps, q.k = p.k
/-- A Swap that finds the version, where there is room. -/
theorem swap_yes {ps : List Pr} {key val : List UInt8} {m : Int} (hok : pairsOk ps = true) (hc : isCmd 4 key val m = true) (hn : spotN key ps = m) (hl : m = 0 → ps.length < 32) (hm : m < 1099511627775) (hkey : key ≠ []) :
    apR 4 key val m ps = ⟨1, [], m + 1, []⟩ ∧ SwapOk ps (apP 4 key val m ps) key val m := by
  obtain ⟨h32, hs, hp⟩ := pairs_ok hok
  have hv := (isCmd_val hc).1
  have hm0 := (isCmd_val hc).2
  have hk16 : key.length ≤ 16 := by
    unfold isCmd at hc
    simp at hc
    exact hc.1.1.1
  have hroom : roomB ps.length (spotN key ps) val = true := by
    unfold roomB
    rw [hn]
    simp only [Bool.and_eq_true, Bool.not_eq_true', Bool.and_eq_false_iff, decide_eq_false_iff_not, decide_eq_true_eq]
    refine ⟨?_, hv, hm⟩
    by_cases e : m = 0
    · exact .inr (by have := hl e; omega)
    · exact .inl e
  have e1 : putP key val (spotN key ps) (lowP key ps) ps = (if spotN key ps = 0 then insP (lowP key ps) ⟨key, val, spotN key ps + 1⟩ ps else ps.set (lowP key ps) ⟨key, val, spotN key ps + 1⟩) := by
    unfold putP
    exact if_neg (by rw [hroom]; simp)
  have e2 : putRr val (spotN key ps) ps.length = ⟨1, [], spotN key ps + 1, []⟩ := by
    unfold putRr
    exact if_neg (by rw [hroom]; simp)
  unfold apP apR
  rw [hok, hc]
  have hP : doP 4 key val m (spotV key ps) (spotN key ps) (lowP key ps) ps = putP key val (spotN key ps) (lowP key ps) ps := by
    show swapP key val m (spotN key ps) (lowP key ps) ps = _
    unfold swapP
    rw [if_pos hn]
  have hR : doR 4 key val m (spotV key ps) (spotN key ps) (lowP key ps) ps = putRr val (spotN key ps) ps.length := by
    show swapRr val (spotV key ps) m (spotN key ps) ps.length = _
    unfold swapRr
    rw [if_pos hn]
  simp only [Bool.and_self, if_true]
  rw [hP, hR, e1, e2, hn]
  refine ⟨rfl, ?_⟩
  by_cases hz : m = 0
  · rw [if_pos hz]
    have hab : isThere key ps = false := by
      cases ht : isThere key ps with
      | false => rfl
      | true => exact absurd (hn.trans hz) ((spot_ok hok key).2.1.2 ht)
    have hs2 : Srt (insP (lowP key ps) ⟨key, val, m + 1⟩ ps) := srt_ins hs hab rfl
    have hno := there_no hs hab
    have hsp := spot_at hs2 (mem_ins.2 (.inl rfl)) (rfl : (⟨key, val, m + 1⟩ : Pr).k = key)
    refine ⟨ok_of (by rw [insP_len (lowP_le key ps)]; have := hl hz; omega) hs2 (fun p hpp => ?_), hsp.1, hsp.2, fun k hk => ?_, fun p hpp => ?_⟩
    · rcases mem_ins.1 hpp with rfl | hpp
      · exact prOk_mk hkey hk16 hv (by omega) (by omega)
      · exact hp p hpp
    · exact spot_same hs hs2 (fun p e => ⟨fun h => mem_ins.2 (.inr h), fun h => by
        rcases mem_ins.1 h with rfl | h
        · exact absurd e.symm hk
        · exact h⟩)
    · rcases mem_ins.1 hpp with rfl | hpp
      · exact .inl rfl
      · exact .inr ⟨p, hpp, rfl⟩
  · rw [if_neg hz]
    have hth : isThere key ps = true := (spot_ok hok key).2.1.1 (by rw [hn]; exact hz)
    obtain ⟨hi, ek, _, en⟩ := there_at hth
    have hs2 : Srt (ps.set (lowP key ps) ⟨key, val, m + 1⟩) := srt_set hs hi (by rw [ek])
    have hsp := spot_at hs2 (mem_set_new hi) (rfl : (⟨key, val, m + 1⟩ : Pr).k = key)
    have huniq : ∀ p ∈ ps, p.k = key → p = ps[lowP key ps] := fun p hpp e => by
      obtain ⟨j, hj, rfl⟩ := List.getElem_of_mem hpp
      have := there_low hs hj e
      simp only [this]
    refine ⟨ok_of (by rw [List.length_set]; exact h32) hs2 (fun p hpp => ?_), hsp.1, hsp.2, fun k hk => ?_, fun p hpp => ?_⟩
    · rcases List.mem_or_eq_of_mem_set hpp with hpp | rfl
      · exact hp p hpp
      · exact prOk_mk hkey hk16 hv (by omega) (by omega)
    · refine spot_same hs hs2 (fun p e => ⟨fun h => mem_set_of hi h (fun e2 => hk ?_), fun h => ?_⟩)
      · rw [← e, e2, ek]
      · rcases List.mem_or_eq_of_mem_set h with h | rfl
        · exact h
        · exact absurd e.symm hk
    · rcases List.mem_or_eq_of_mem_set hpp with hpp | rfl
      · exact .inr ⟨p, hpp, rfl⟩
      · exact .inl rfl
end Go.Proofs.YtflnjlbafchnaaaGreatDoor

/-
  Transactions, plainly: what one is, the command that it tells, what an answer makes of it.
-/
namespace Go.Proofs.YtflnjlbafchnaaaGreatDoor

/-- A part; a transaction. -/
structure Pt where
  k : List UInt8
  a : Int
structure Tx where
  id : Nat
  ps : List Pt
  st : Nat
  old : List Int
  ph : Nat
  at' : Nat
  sn : Hd
  vr : Int
  hd : Bool
  hv : Int
def wOpen : List UInt8 := [111, 112, 101, 110]
def wDon : List UInt8 := [100, 111, 110, 101]
def wOff : List UInt8 := [111, 102, 102]
def versR (r : Rr) : Int := if r.kd = 1 then r.n else 0
structure Cd where
  kd : Int
  k : List UInt8
  v : List UInt8
  m : Int
def getC (k : List UInt8) : Cd := ⟨2, k, [], 0⟩
def swapC (k v : List UInt8) (m : Int) : Cd := ⟨4, k, v, m⟩
namespace Tx
def part (t : Tx) : Pt := (t.ps[t.at']?).getD ⟨[], 0⟩
def key (t : Tx) : List UInt8 := kKey t.part.k
def thenZ (t : Tx) : Int := t.sn.n + t.part.a
/-- What a number, held or not, writes. -/
def numT (n b : Nat) (z : Int) : List UInt8 := if b = 0 then Lib.decDigits n else Lib.decDigits n ++ 32 :: (Lib.decDigits b ++ 32 :: Lib.itoa z)
def next (t : Tx) : Cd × Bool :=
  if t.ph = 0 then (swapC (tKey t.id) wOpen 0, true)
  else if t.ph = 1 ∨ t.ph = 8 then (getC t.key, true)
  else if t.ph = 2 then (swapC t.key (numT t.sn.n t.id t.thenZ) t.vr, true)
  else if t.ph = 3 then (getC (tKey t.sn.b), true)
  else if t.ph = 4 then (swapC (tKey t.sn.b) wOff t.hv, true)
  else if t.ph = 5 then (swapC t.key (numT (t.sn.settled t.hd) 0 0) t.vr, true)
  else if t.ph = 6 then (swapC (tKey t.id) wDon 1, true)
  else if t.ph = 7 then (swapC (tKey t.id) wOff 1, true)
  else if t.ph = 9 then (swapC t.key (numT (t.sn.settled (decide (t.st = 2))) 0 0) t.vr, true)
  else (⟨0, [], [], 0⟩, false)
def further (t : Tx) (p b : Nat) : Tx := if t.at' + 1 = t.ps.length then { t with at' := 0, ph := b } else { t with at' := t.at' + 1, ph := p }
def note (t : Tx) : Tx := { t with old := t.old ++ [(t.sn.n : Int)] }.further 1 6
def see (t : Tx) (r : Rr) : Tx := { t with sn := hdOf (saidR r), vr := versR r }
def looked' (t : Tx) : Tx :=
  if t.sn.b = t.id then t.note
  else if 0 < t.sn.b then { t with ph := 3 }
  else if t.thenZ < 0 ∨ 999999999 < t.thenZ then { t with ph := 7 }
  else { t with ph := 2 }
def looked (t : Tx) (r : Rr) : Tx := (t.see r).looked'
def begun (t : Tx) (ok : Bool) : Tx := if ok = true then { t with ph := 1 } else { t with st := 3, ph := 10 }
def took (t : Tx) (ok : Bool) : Tx := if ok = true then ({ t with ph := 1 } : Tx).note else { t with ph := 1 }
def asked (t : Tx) (r : Rr) : Tx := { t with hd := decide (saidR r = wDon), hv := versR r, ph := if saidR r = wOpen then 4 else 5 }
def settle (t : Tx) (d : Bool) : Tx := { t with st := if d = true then 2 else 3, at' := 0, ph := 8 }
def cleared (t : Tx) (r : Rr) : Tx := if (t.see r).sn.b = t.id then { t.see r with ph := 9 } else (t.see r).further 8 10
def answer (t : Tx) (r : Rr) : Tx :=
  if t.ph = 0 then t.begun (decide (r.kd = 1))
  else if t.ph = 1 then t.looked r
  else if t.ph = 2 then t.took (decide (r.kd = 1))
  else if t.ph = 3 then t.asked r
  else if t.ph = 4 ∨ t.ph = 5 then { t with ph := 1 }
  else if t.ph = 6 then t.settle (decide (r.kd = 1))
  else if t.ph = 7 then t.settle false
  else if t.ph = 8 then t.cleared r
  else if t.ph = 9 then t.further 8 10
  else t
/-- What is always so of one. -/
structure Ok (t : Tx) : Prop where
  id0 : 1 ≤ t.id
  id : t.id ≤ 999
  len : 1 ≤ t.ps.length
  len4 : t.ps.length ≤ 4
  keys : ∀ p ∈ t.ps, 1 ≤ p.k.length ∧ p.k.length ≤ 15 ∧ -999999999 ≤ p.a ∧ p.a ≤ 999999999
  at' : t.at' < t.ps.length
  sn : t.sn.Ok
  old : t.old.length ≤ 4
  hold : t.ph = 2 → 0 ≤ t.thenZ ∧ t.thenZ ≤ 999999999
  ph : t.ph ≤ 10
  olds : t.ph ≤ 7 → t.ph ≠ 6 → t.old.length = t.at'
end Tx
end Go.Proofs.YtflnjlbafchnaaaGreatDoor

/-
  Transactions, plainly: what is always so of one stays so.
-/
namespace Go.Proofs.YtflnjlbafchnaaaGreatDoor
namespace Tx

theorem further_ps (t : Tx) (p b : Nat) : (t.further p b).ps = t.ps ∧ (t.further p b).id = t.id ∧ (t.further p b).sn = t.sn ∧ (t.further p b).old = t.old ∧ (t.further p b).st = t.st := by
  unfold further
  split <;> exact ⟨rfl, rfl, rfl, rfl, rfl⟩
theorem further_at (t : Tx) (p b : Nat) (h : t.at' < t.ps.length) : (t.further p b).at' < t.ps.length ∧ (((t.further p b).ph = p ∧ (t.further p b).at' = t.at' + 1) ∨ ((t.further p b).ph = b ∧ (t.further p b).at' = 0 ∧ t.at' + 1 = t.ps.length)) := by
  unfold further
  split
  · rename_i h1
    exact ⟨by show 0 < _; omega, .inr ⟨rfl, rfl, h1⟩⟩
  · rename_i h1
    exact ⟨by show t.at' + 1 < _; omega, .inl ⟨rfl, rfl⟩⟩
/-- The part of it that no step touches. -/
structure Base (t : Tx) : Prop where
  id0 : 1 ≤ t.id
  id : t.id ≤ 999
  len : 1 ≤ t.ps.length
  len4 : t.ps.length ≤ 4
  keys : ∀ p ∈ t.ps, 1 ≤ p.k.length ∧ p.k.length ≤ 15 ∧ -999999999 ≤ p.a ∧ p.a ≤ 999999999
theorem Ok.base {t : Tx} (h : t.Ok) : t.Base := ⟨h.id0, h.id, h.len, h.len4, h.keys⟩
theorem Base.of {t u : Tx} (h : t.Base) (h1 : u.id = t.id) (h2 : u.ps = t.ps) : u.Base := ⟨by rw [h1]; exact h.id0, by rw [h1]; exact h.id, by rw [h2]; exact h.len, by rw [h2]; exact h.len4, by rw [h2]; exact h.keys⟩
theorem Ok.mk' {u : Tx} (hb : u.Base) (h1 : u.at' < u.ps.length) (h2 : u.sn.Ok) (h3 : u.old.length ≤ 4) (h4 : u.ph = 2 → 0 ≤ u.thenZ ∧ u.thenZ ≤ 999999999) (h5 : u.ph ≤ 10) (h6 : u.ph ≤ 7 → u.ph ≠ 6 → u.old.length = u.at') : u.Ok :=
  ⟨hb.id0, hb.id, hb.len, hb.len4, hb.keys, h1, h2, h3, h4, h5, h6⟩
theorem note_ok {t : Tx} (hb : t.Base) (ha : t.at' < t.ps.length) (hs : t.sn.Ok) (ho : t.old.length = t.at') : t.note.Ok := by
  unfold note
  obtain ⟨e1, e2, e3, e4, _⟩ := further_ps { t with old := t.old ++ [(t.sn.n : Int)] } 1 6
  obtain ⟨f1, f2⟩ := further_at { t with old := t.old ++ [(t.sn.n : Int)] } 1 6 ha
  have hl := hb.len4
  have ha' : t.at' < t.ps.length := ha
  refine Ok.mk' (hb.of e2 e1) (by rw [e1]; exact f1) (by rw [e3]; exact hs) (by rw [e4]; simp; omega) ?_ ?_ ?_
  · intro h
    rcases f2 with ⟨g, _⟩ | ⟨g, _⟩ <;> rw [g] at h <;> cases h
  · rcases f2 with ⟨g, _⟩ | ⟨g, _⟩ <;> rw [g] <;> omega
  · intro _ h6
    rcases f2 with ⟨g, g2⟩ | ⟨g, _⟩
    · rw [e4, g2]; simp; omega
    · exact absurd g h6
theorem further_ok {t : Tx} (h : t.Ok) : (t.further 8 10).Ok := by
  obtain ⟨e1, e2, e3, e4, _⟩ := further_ps t 8 10
  obtain ⟨f1, f2⟩ := further_at t 8 10 h.at'
  refine Ok.mk' (h.base.of e2 e1) (by rw [e1]; exact f1) (by rw [e3]; exact h.sn) (by rw [e4]; exact h.old) ?_ ?_ ?_
  · intro h
    rcases f2 with ⟨g, _⟩ | ⟨g, _⟩ <;> rw [g] at h <;> cases h
  · rcases f2 with ⟨g, _⟩ | ⟨g, _⟩ <;> rw [g] <;> omega
  · intro h7 _
    rcases f2 with ⟨g, _⟩ | ⟨g, _⟩ <;> rw [g] at h7 <;> omega
theorem answer_ok {t : Tx} (h : t.Ok) (r : Rr) : (t.answer r).Ok := by
  have hat := h.at'
  have hsn : (t.see r).sn.Ok := hdOf_ok _
  unfold answer
  split
  · rename_i hp
    unfold begun
    have ho := h.olds (by omega) (by omega)
    split
    · exact Ok.mk' (h.base.of rfl rfl) hat h.sn h.old (fun e => by cases e) (by show 1 ≤ 10; omega) (fun _ _ => ho)
    · exact Ok.mk' (h.base.of rfl rfl) hat h.sn h.old (fun e => by cases e) (by show 10 ≤ 10; omega) (fun e _ => absurd e (by show ¬ 10 ≤ 7; omega))
  split
  · rename_i hp
    have ho := h.olds (by omega) (by omega)
    unfold looked looked'
    split
    · exact note_ok (h.base.of rfl rfl) hat hsn ho
    split
    · exact Ok.mk' (h.base.of rfl rfl) hat hsn h.old (fun e => by cases e) (by show 3 ≤ 10; omega) (fun _ _ => ho)
    split
    · exact Ok.mk' (h.base.of rfl rfl) hat hsn h.old (fun e => by cases e) (by show 7 ≤ 10; omega) (fun _ _ => ho)
    · rename_i hz
      exact Ok.mk' (h.base.of rfl rfl) hat hsn h.old (fun _ => ⟨by show 0 ≤ (t.see r).thenZ; omega, by show (t.see r).thenZ ≤ 999999999; omega⟩) (by show 2 ≤ 10; omega) (fun _ _ => ho)
  split
  · rename_i hp
    have ho := h.olds (by omega) (by omega)
    unfold took
    split
    · exact note_ok (h.base.of rfl rfl) hat h.sn ho
    · exact Ok.mk' (h.base.of rfl rfl) hat h.sn h.old (fun e => by cases e) (by show 1 ≤ 10; omega) (fun _ _ => ho)
  split
  · rename_i hp
    have ho := h.olds (by omega) (by omega)
    unfold asked
    refine Ok.mk' (h.base.of rfl rfl) hat h.sn h.old ?_ ?_ (fun _ _ => ho)
    · intro e
      simp only at e
      split at e <;> cases e
    · show (if saidR r = wOpen then 4 else 5) ≤ 10
      split <;> omega
  split
  · rename_i hp
    have ho := h.olds (by omega) (by omega)
    exact Ok.mk' (h.base.of rfl rfl) hat h.sn h.old (fun e => by cases e) (by show 1 ≤ 10; omega) (fun _ _ => ho)
  split
  · unfold settle
    exact Ok.mk' (h.base.of rfl rfl) (by show 0 < t.ps.length; omega) h.sn h.old (fun e => by cases e) (by show 8 ≤ 10; omega) (fun e _ => absurd e (by show ¬ 8 ≤ 7; omega))
  split
  · unfold settle
    exact Ok.mk' (h.base.of rfl rfl) (by show 0 < t.ps.length; omega) h.sn h.old (fun e => by cases e) (by show 8 ≤ 10; omega) (fun e _ => absurd e (by show ¬ 8 ≤ 7; omega))
  split
  · rename_i hp
    have hs : (t.see r).Ok := Ok.mk' (h.base.of rfl rfl) hat hsn h.old (fun e => by have e2 : t.ph = 2 := e; omega) h.ph (fun e _ => by have e2 : t.ph ≤ 7 := e; omega)
    unfold cleared
    split
    · exact Ok.mk' (h.base.of rfl rfl) hat hsn h.old (fun e => by cases e) (by show 9 ≤ 10; omega) (fun e _ => absurd e (by show ¬ 9 ≤ 7; omega))
    · exact further_ok hs
  split
  · exact further_ok h
  · exact h
end Tx
end Go.Proofs.YtflnjlbafchnaaaGreatDoor

/-
  Transactions, plainly: the map as two functions of a key, and a transaction's step over them.
-/
namespace Go.Proofs.YtflnjlbafchnaaaGreatDoor

/-- What stands under the keys: the values and the versions. -/
structure St where
  v : List UInt8 → List UInt8
  n : List UInt8 → Int
def St.of (ps : List Pr) : St := ⟨fun k => spotV k ps, fun k => spotN k ps⟩
def St.put (s : St) (k x : List UInt8) : St := ⟨fun j => if j = k then x else s.v j, fun j => if j = k then s.n k + 1 else s.n j⟩
def St.swap (s : St) (k x : List UInt8) (m : Int) : St := if s.n k = m then s.put k x else s
namespace Tx
/-- An answer, by what it says, its version, and whether it is a yes. -/
def ans (t : Tx) (x : List UInt8) (m : Int) (ok : Bool) : Tx :=
  if t.ph = 0 then t.begun ok
  else if t.ph = 1 then ({ t with sn := hdOf x, vr := m } : Tx).looked'
  else if t.ph = 2 then t.took ok
  else if t.ph = 3 then { t with hd := decide (x = wDon), hv := m, ph := if x = wOpen then 4 else 5 }
  else if t.ph = 4 ∨ t.ph = 5 then { t with ph := 1 }
  else if t.ph = 6 then t.settle ok
  else if t.ph = 7 then t.settle false
  else if t.ph = 8 then (if (hdOf x).b = t.id then { t with sn := hdOf x, vr := m, ph := 9 } else ({ t with sn := hdOf x, vr := m } : Tx).further 8 10)
  else if t.ph = 9 then t.further 8 10
  else t
theorem answer_ans (t : Tx) (r : Rr) : t.answer r = t.ans (saidR r) (versR r) (decide (r.kd = 1)) := rfl
/-- The phases that read, and those that write. -/
def reads (t : Tx) : Prop := t.ph = 1 ∨ t.ph = 3 ∨ t.ph = 8
theorem ans_reads {t : Tx} (h : t.reads) (x : List UInt8) (m : Int) (o p : Bool) : t.ans x m o = t.ans x m p := by
  unfold ans
  rcases h with h | h | h <;> rw [h] <;> rfl
theorem ans_writes {t : Tx} (h : ¬ t.reads) (x y : List UInt8) (m k : Int) (o : Bool) : t.ans x m o = t.ans y k o := by
  unfold reads at h
  simp only [not_or] at h
  unfold ans
  rw [if_neg h.1, if_neg h.1, if_neg h.2.1, if_neg h.2.1, if_neg h.2.2, if_neg h.2.2]
theorem next_reads {t : Tx} (h : t.reads) : ∃ k, k ≠ [] ∧ t.next = (getC k, true) := by
  unfold next
  rcases h with h | h | h <;> rw [h]
  · exact ⟨_, by unfold key kKey; simp, rfl⟩
  · exact ⟨_, by unfold tKey; simp, rfl⟩
  · exact ⟨_, by unfold key kKey; simp, rfl⟩
theorem next_writes {t : Tx} (h : ¬ t.reads) (h9 : t.ph ≤ 9) : ∃ k x m, k ≠ [] ∧ t.next = (swapC k x m, true) := by
  unfold reads at h
  simp only [not_or] at h
  have : t.ph = 0 ∨ t.ph = 2 ∨ t.ph = 4 ∨ t.ph = 5 ∨ t.ph = 6 ∨ t.ph = 7 ∨ t.ph = 9 := by omega
  unfold next
  rcases this with e | e | e | e | e | e | e <;> rw [e]
  · exact ⟨_, _, _, by unfold tKey; simp, rfl⟩
  · exact ⟨_, _, _, by unfold key kKey; simp, rfl⟩
  · exact ⟨_, _, _, by unfold tKey; simp, rfl⟩
  · exact ⟨_, _, _, by unfold key kKey; simp, rfl⟩
  · exact ⟨_, _, _, by unfold tKey; simp, rfl⟩
  · exact ⟨_, _, _, by unfold tKey; simp, rfl⟩
  · exact ⟨_, _, _, by unfold key kKey; simp, rfl⟩
open Classical in
/-- A step. -/
noncomputable def go (t : Tx) (s : St) : St × Tx :=
  if t.reads then (s, t.ans (s.v t.next.1.k) (s.n t.next.1.k) true)
  else (s.swap t.next.1.k t.next.1.v t.next.1.m, t.ans [] 0 (decide (s.n t.next.1.k = t.next.1.m)))
end Tx
theorem get_vers {ps : List Pr} {key : List UInt8} (hok : pairsOk ps = true) (hc : isCmd 2 key [] 0 = true) : versR (apR 2 key [] 0 ps) = spotN key ps := by
  rw [(get_ap hok hc).2]
  by_cases hz : spotN key ps = 0
  · rw [if_pos hz, hz]
    rfl
  · rw [if_neg hz]
    rfl
/-- A step of a transaction over pairs is one over what stands under the keys. -/
theorem go_is {t : Tx} {ps : List Pr} (h9 : t.ph ≤ 9) (hok : pairsOk ps = true) (hc : isCmd t.next.1.kd t.next.1.k t.next.1.v t.next.1.m = true)
    (hl : ps.length < 32 ∨ ∃ p ∈ ps, p.k = t.next.1.k) (hm : spotN t.next.1.k ps < 1099511627775) :
    St.of (apP t.next.1.kd t.next.1.k t.next.1.v t.next.1.m ps) = (t.go (St.of ps)).1
      ∧ t.answer (apR t.next.1.kd t.next.1.k t.next.1.v t.next.1.m ps) = (t.go (St.of ps)).2
      ∧ pairsOk (apP t.next.1.kd t.next.1.k t.next.1.v t.next.1.m ps) = true
      ∧ ∀ p ∈ apP t.next.1.kd t.next.1.k t.next.1.v t.next.1.m ps, p.k = t.next.1.k ∨ ∃ q ∈ ps, q.k = p.k := by
  by_cases hr : t.reads
  · obtain ⟨k, _, e⟩ := Tx.next_reads hr
    unfold Tx.go
    rw [if_pos hr]
    rw [e] at hc ⊢
    replace hc : isCmd 2 k [] 0 = true := hc
    have hg := get_ap hok hc
    have h1 : saidR (apR 2 k [] 0 ps) = spotV k ps := get_tells hok hc
    have h2 := get_vers hok hc
    refine ⟨?_, ?_, ?_, fun p hp => ?_⟩
    · show St.of (apP 2 k [] 0 ps) = _
      rw [hg.1]
    · show t.answer (apR 2 k [] 0 ps) = _
      rw [Tx.answer_ans, h1, h2]
      exact Tx.ans_reads hr _ _ _ _
    · show pairsOk (apP 2 k [] 0 ps) = true
      rw [hg.1]
      exact hok
    · have hp' : p ∈ apP 2 k [] 0 ps := hp
      rw [hg.1] at hp'
      exact .inr ⟨p, hp', rfl⟩
  · obtain ⟨k, x, m, hk, e⟩ := Tx.next_writes hr h9
    unfold Tx.go
    rw [if_neg hr]
    rw [e] at hc hl hm ⊢
    replace hc : isCmd 4 k x m = true := hc
    have hl' : ps.length < 32 ∨ ∃ p ∈ ps, p.k = k := hl
    have hm' : spotN k ps < 1099511627775 := hm
    by_cases hn : spotN k ps = m
    · obtain ⟨e1, hs⟩ := swap_yes hok hc hn (fun hz => by
        rcases hl' with h | ⟨p, hp, ek⟩
        · exact h
        · exfalso
          have h4 := there_yes (pairs_ok hok).2.1 hp ek
          exact (spot_ok hok k).2.1.2 h4 (hn.trans hz)) (by rw [← hn]; exact hm') hk
      refine ⟨?_, ?_, hs.ok, hs.mem⟩
      · show St.of (apP 4 k x m ps) = (St.of ps).swap k x m
        have hsw : (St.of ps).swap k x m = (St.of ps).put k x := if_pos hn
        rw [hsw]
        unfold St.of St.put
        congr 1
        · funext j
          by_cases ej : j = k
          · rw [ej, if_pos rfl, hs.v]
          · rw [if_neg ej, (hs.oth j ej).1]
        · funext j
          by_cases ej : j = k
          · rw [ej, if_pos rfl, hs.n, ← hn]
          · rw [if_neg ej, (hs.oth j ej).2]
      · show t.answer (apR 4 k x m ps) = t.ans [] 0 (decide (spotN k ps = m))
        rw [Tx.answer_ans, e1, decide_eq_true hn]
        exact Tx.ans_writes hr _ _ _ _ _
    · obtain ⟨e1, e2⟩ := swap_no hok hc hn
      refine ⟨?_, ?_, ?_, fun p hp => ?_⟩
      · show St.of (apP 4 k x m ps) = (St.of ps).swap k x m
        rw [e1]
        exact (if_neg hn).symm
      · show t.answer (apR 4 k x m ps) = t.ans [] 0 (decide (spotN k ps = m))
        rw [Tx.answer_ans, decide_eq_false hn, decide_eq_false e2]
        exact Tx.ans_writes hr _ _ _ _ _
      · show pairsOk (apP 4 k x m ps) = true
        rw [e1]
        exact hok
      · have hp' : p ∈ apP 4 k x m ps := hp
        rw [e1] at hp'
        exact .inr ⟨p, hp', rfl⟩
end Go.Proofs.YtflnjlbafchnaaaGreatDoor

/-
  Cells, plainly: a job, the command that it tells, what an answer makes of it.
-/
namespace Go.Proofs.YtflnjlbafchnaaaGreatDoor

def unsaid (g : Nat) : Ce := if g = 1 then ⟨[], 0, 0, 0, 0⟩ else ⟨[], 0, 2, 0, 1⟩
theorem unsaid_ok (g : Nat) : (unsaid g).Ok := by
  unfold unsaid
  split
  · exact ⟨by decide, by decide, fun _ => rfl, by decide, by decide, fun _ => rfl, fun e => absurd rfl e, fun _ => rfl⟩
  · exact ⟨by decide, by decide, fun _ => rfl, by decide, by decide, fun e => (by cases e), fun _ => ⟨by decide, by decide⟩, fun _ => rfl⟩
/-- What a group says, by the result of a Get. -/
def sawC (g : Nat) (r : Rr) : Ce := if r.kd = 1 then (ceOf r.v).getD (unsaid g) else unsaid g
theorem sawC_ok (g : Nat) (r : Rr) : (sawC g r).Ok := by
  unfold sawC
  split
  · cases h : ceOf r.v with
    | none => exact unsaid_ok g
    | some c => exact ceOf_ok h
  · exact unsaid_ok g
def cKey (k : List UInt8) : List UInt8 := 99 :: k
namespace Ce
def towards (c : Ce) (g : Nat) : Ce := ⟨c.v, c.n, 1, c.h + 1, g⟩
def arrived (c : Ce) : Ce := ⟨c.v, c.n, 0, c.h, 0⟩
def left (c : Ce) : Ce := ⟨[], 0, 2, c.h, c.g⟩
end Ce
/-! ### a command on just one key -/
def cmV (kd : Int) (val : List UInt8) (m : Int) (v : List UInt8) (n : Nat) : List UInt8 := if kd = 1 then val else if kd = 2 then v else if kd = 3 then [] else if kd = 4 then (if (n : Int) = m then val else v) else v ++ val
def cmN (kd : Int) (m : Int) (n : Nat) : Nat := if kd = 1 then n + 1 else if kd = 2 then n else if kd = 3 then 0 else if kd = 4 then (if (n : Int) = m then n + 1 else n) else n + 1
def cmR (kd : Int) (m : Int) (v : List UInt8) (n : Nat) : Rr := if kd = 1 then ⟨1, [], n + 1, []⟩ else if kd = 2 then tellRr 1 v n else if kd = 3 then dropRr n else if kd = 4 then (if (n : Int) = m then ⟨1, [], n + 1, []⟩ else tellRr 3 v n) else ⟨1, [], n + 1, []⟩
structure Jb where
  kd : Int
  k : List UInt8
  v : List UInt8
  m : Int
  tg : Nat
  st : Nat
  at' : Nat
  rs : Rr
  ph : Nat
  sn : Ce
  sv : Int
  nx : Ce
  re : Rr
  sp : Int
  ow : Bool
def Rr.zero : Rr := ⟨0, [], 0, []⟩
def Ce.zero : Ce := ⟨[], 0, 0, 0, 0⟩
def Jb.new (kd : Int) (k v : List UInt8) (m : Int) (tg at' : Nat) : Jb := ⟨kd, k, v, m, tg, 1, at', Rr.zero, 0, Ce.zero, 0, Ce.zero, Rr.zero, 0, false⟩
namespace Jb
def next (j : Jb) : Nat × Cd × Bool :=
  if j.ph = 0 then (j.at', getC (cKey j.k), true)
  else if j.ph = 1 then (j.at', swapC (cKey j.k) (ceTxt j.nx) j.sv, true)
  else if j.ph = 2 then (j.tg, getC (cKey j.k), true)
  else if j.ph = 3 then (j.tg, swapC (cKey j.k) (ceTxt (unsaid j.tg)) 0, true)
  else if j.ph = 4 then (j.sn.g, getC (cKey j.k), true)
  else if j.ph = 5 then (j.sn.g, swapC (cKey j.k) (ceTxt j.sn.arrived) j.sp, true)
  else if j.ph = 6 then (j.at', swapC (cKey j.k) (ceTxt j.sn.left) j.sv, true)
  else (0, ⟨0, [], [], 0⟩, false)
def fin (j : Jb) (r : Rr) : Jb := { j with st := 2, rs := r, ph := 7 }
def finK (j : Jb) (kd : Int) : Jb := j.fin ⟨kd, [], 0, []⟩
def follow (j : Jb) : Jb := { j with at' := j.sn.g, ph := 0 }
def handOver (j : Jb) : Jb :=
  if j.tg = j.at' then j.finK 1
  else if j.sn.h = 999999 then j.finK 4
  else { j with nx := j.sn.towards j.tg, ph := 2 }
def apply (j : Jb) : Jb :=
  if ¬ ((cmV j.kd j.v j.m j.sn.v j.sn.n).length ≤ 32 ∧ cmN j.kd j.m j.sn.n ≤ 999999) then j.finK 4
  else if cmV j.kd j.v j.m j.sn.v j.sn.n = j.sn.v ∧ cmN j.kd j.m j.sn.n = j.sn.n then j.fin (cmR j.kd j.m j.sn.v j.sn.n)
  else { j with nx := ⟨cmV j.kd j.v j.m j.sn.v j.sn.n, cmN j.kd j.m j.sn.n, 0, j.sn.h, 0⟩, re := cmR j.kd j.m j.sn.v j.sn.n, ph := 1 }
def seen (j : Jb) : Jb :=
  if j.sn.s = 2 then j.follow
  else if j.sn.s = 1 then { j with ph := 4 }
  else if 0 < j.tg then j.handOver
  else j.apply
def hasRead (j : Jb) (r : Rr) : Jb := if 5 < r.kd then j else ({ j with sn := sawC j.at' r, sv := versR r } : Jb).seen
def hasWritten (j : Jb) (r : Rr) : Jb :=
  if r.kd = 1 ∧ 0 < j.tg then { j with sn := j.nx, sv := r.n, ow := true, ph := 4 }
  else if r.kd = 1 then j.fin j.re
  else if r.kd = 4 then j.finK 4
  else if 5 < r.kd ∧ j.tg = 0 then { j with st := 3, ph := 7 }
  else { j with ph := 0 }
def hasPrepared (j : Jb) (r : Rr) : Jb := if 5 < r.kd then j else if r.kd = 2 then { j with ph := 3 } else { j with ph := 1 }
def hasRoom (j : Jb) (r : Rr) : Jb := if r.kd = 4 then j.finK 4 else { j with ph := 0 }
def hasLooked (j : Jb) (r : Rr) : Jb := if 5 < r.kd then j else { j with sp := versR r, ph := if (sawC j.sn.g r).h < j.sn.h then 5 else 6 }
def hasPut (j : Jb) (r : Rr) : Jb := { j with ph := if r.kd = 1 then 6 else 4 }
def hasSealed (j : Jb) : Jb := if j.ow = true then j.finK 1 else j.follow
def answer (j : Jb) (r : Rr) : Jb :=
  if j.ph = 0 then j.hasRead r
  else if j.ph = 1 then j.hasWritten r
  else if j.ph = 2 then j.hasPrepared r
  else if j.ph = 3 then j.hasRoom r
  else if j.ph = 4 then j.hasLooked r
  else if j.ph = 5 then j.hasPut r
  else if j.ph = 6 then j.hasSealed
  else j
/-- What is always so of one, whatever it is told. -/
structure Ok (j : Jb) : Prop where
  kd : 1 ≤ j.kd ∧ j.kd ≤ 5
  k1 : 1 ≤ j.k.length
  k2 : j.k.length ≤ 15
  v : j.v.length ≤ 32
  m : 0 ≤ j.m ∧ j.m ≤ 1099511627775
  tg : j.tg ≤ 4
  at1 : 1 ≤ j.at'
  at4 : j.at' ≤ 4
  st : j.st ≤ 3
  ph : j.ph ≤ 7
  sn : j.sn.Ok
  sns : (j.ph = 1 ∨ j.ph = 2 ∨ j.ph = 3) → j.sn.s = 0
  snm : (4 ≤ j.ph ∧ j.ph ≤ 6) → j.sn.s = 1
  nx : j.ph = 1 ∨ j.ph = 2 ∨ j.ph = 3 → j.nx.Ok
  nxm : 0 < j.tg → (j.ph = 1 ∨ j.ph = 2 ∨ j.ph = 3) → j.nx.s = 1
  to1 : j.ph = 2 ∨ j.ph = 3 → 0 < j.tg
  rk : j.rs.ks = []
  ek : j.re.ks = []
end Jb
theorem tell_ks (kd : Int) (v : List UInt8) (n : Int) : (tellRr kd v n).ks = [] := by unfold tellRr; split <;> rfl
theorem cmR_ks (kd m : Int) (v : List UInt8) (n : Nat) : (cmR kd m v n).ks = [] := by
  unfold cmR
  split
  · rfl
  · split
    · exact tell_ks _ _ _
    · split
      · unfold dropRr; split <;> rfl
      · split
        · split
          · rfl
          · exact tell_ks _ _ _
        · rfl
theorem cmN_zero {kd m : Int} {val v : List UInt8} {n : Nat} (hv : n = 0 → v = []) (h : cmN kd m n = 0) : cmV kd val m v n = [] := by
  unfold cmN at h
  unfold cmV
  split at h
  · omega
  · rename_i h1
    rw [if_neg h1]
    split at h
    · rename_i h2
      rw [if_pos h2]
      exact hv h
    · rename_i h2
      rw [if_neg h2]
      split at h
      · rename_i h3
        rw [if_pos h3]
      · rename_i h3
        rw [if_neg h3]
        split at h
        · rename_i h4
          rw [if_pos h4]
          split at h
          · omega
          · rename_i h5
            rw [if_neg h5]
            exact hv h
        · omega
theorem Ce.Ok.left {c : Ce} (h : c.Ok) (hs : c.s = 1) : c.left.Ok :=
  ⟨by simp [Ce.left], by simp [Ce.left], fun _ => rfl, by simp [Ce.left], h.h, fun e => by simp [Ce.left] at e, fun _ => h.g1 (by omega), fun _ => rfl⟩
theorem Ce.Ok.arrived {c : Ce} (h : c.Ok) : c.arrived.Ok :=
  ⟨h.v, h.n, h.vn, by simp [Ce.arrived], h.h, fun _ => rfl, fun e => absurd rfl e, fun e => by simp [Ce.arrived] at e⟩
theorem Ce.Ok.towards {c : Ce} (h : c.Ok) (hh : c.h ≠ 999999) {g : Nat} (hg : 1 ≤ g) (hg4 : g ≤ 4) : (c.towards g).Ok :=
  ⟨h.v, h.n, h.vn, by simp [Ce.towards], by have := h.h; simp [Ce.towards]; omega, fun e => by simp [Ce.towards] at e, fun _ => ⟨hg, hg4⟩, fun e => by simp [Ce.towards] at e⟩
namespace Jb
theorem Ok.fin {j : Jb} (h : j.Ok) {r : Rr} (hr : r.ks = []) : (j.fin r).Ok :=
  ⟨h.kd, h.k1, h.k2, h.v, h.m, h.tg, h.at1, h.at4, by simp [Jb.fin], by simp [Jb.fin], h.sn, fun e => by simp [Jb.fin] at e, fun e => by simp [Jb.fin] at e, fun e => by simp [Jb.fin] at e, fun _ e => by simp [Jb.fin] at e, fun e => by simp [Jb.fin] at e, hr, h.ek⟩
theorem Ok.follow {j : Jb} (h : j.Ok) (hs : j.sn.s ≠ 0) : j.follow.Ok :=
  ⟨h.kd, h.k1, h.k2, h.v, h.m, h.tg, (h.sn.g1 hs).1, (h.sn.g1 hs).2, h.st, by simp [Jb.follow], h.sn, fun e => by simp [Jb.follow] at e, fun e => by simp [Jb.follow] at e, fun e => by simp [Jb.follow] at e, fun _ e => by simp [Jb.follow] at e, fun e => by simp [Jb.follow] at e, h.rk, h.ek⟩
/-- A job that has seen something, and takes phase 0. -/
theorem Ok.zero {j : Jb} (h : j.Ok) {c : Ce} (hc : c.Ok) (m : Int) (p : Nat) (hp : p = 0) : ({ j with sn := c, sv := m, ph := p } : Jb).Ok :=
  ⟨h.kd, h.k1, h.k2, h.v, h.m, h.tg, h.at1, h.at4, h.st, by simp [hp], hc, fun e => by simp [hp] at e, fun e => by simp [hp] at e, fun e => by simp [hp] at e, fun _ e => by simp [hp] at e, fun e => by simp [hp] at e, h.rk, h.ek⟩
theorem Ok.ph0 {j : Jb} (h : j.Ok) : ({ j with ph := 0 } : Jb).Ok := Ok.zero h h.sn j.sv 0 rfl
theorem Ok.seen {j : Jb} (h : j.Ok) : j.seen.Ok := by
  unfold Jb.seen
  split
  · exact h.follow (by omega)
  · split
    · rename_i h2 h1
      exact ⟨h.kd, h.k1, h.k2, h.v, h.m, h.tg, h.at1, h.at4, h.st, by simp, h.sn, fun e => by simp at e, fun _ => h1, fun e => by simp at e, fun _ e => by simp at e, fun e => by simp at e, h.rk, h.ek⟩
    · rename_i h2 h1
      have h0 : j.sn.s = 0 := by have := h.sn.s; omega
      split
      · rename_i ht
        unfold Jb.handOver
        split
        · exact h.fin rfl
        · split
          · exact h.fin rfl
          · rename_i hh
            refine ⟨h.kd, h.k1, h.k2, h.v, h.m, h.tg, h.at1, h.at4, h.st, by simp, h.sn, fun _ => h0, fun e => by simp at e, fun _ => h.sn.towards hh ht h.tg, fun _ _ => rfl, fun _ => ht, h.rk, h.ek⟩
      · rename_i ht
        unfold Jb.apply
        split
        · exact h.fin rfl
        · rename_i hf
          simp only [Decidable.not_not] at hf
          split
          · exact h.fin (cmR_ks _ _ _ _)
          · refine ⟨h.kd, h.k1, h.k2, h.v, h.m, h.tg, h.at1, h.at4, h.st, by simp, h.sn, fun _ => h0, fun e => by simp at e, fun _ => ?_, fun e => absurd e ht, fun e => by simp at e, h.rk, cmR_ks _ _ _ _⟩
            exact ⟨hf.1, hf.2, fun e => cmN_zero h.sn.vn e, by simp, h.sn.h, fun _ => rfl, fun e => absurd rfl e, fun e => by simp at e⟩
theorem Ok.answer {j : Jb} (h : j.Ok) (r : Rr) : (j.answer r).Ok := by
  unfold Jb.answer
  split
  · rename_i hp
    unfold Jb.hasRead
    split
    · exact h
    · exact Ok.seen (Ok.zero h (sawC_ok _ _) _ _ hp)
  · split
    · rename_i hp
      unfold Jb.hasWritten
      have hnx := h.nx (.inl hp)
      split
      · rename_i hc
        exact ⟨h.kd, h.k1, h.k2, h.v, h.m, h.tg, h.at1, h.at4, h.st, by simp, hnx, fun e => by simp at e, fun _ => h.nxm hc.2 (.inl hp), fun e => by simp at e, fun _ e => by simp at e, fun e => by simp at e, h.rk, h.ek⟩
      · split
        · exact h.fin h.ek
        · split
          · exact h.fin rfl
          · split
            · exact ⟨h.kd, h.k1, h.k2, h.v, h.m, h.tg, h.at1, h.at4, by simp, by simp, h.sn, fun e => by simp at e, fun e => by simp at e, fun e => by simp at e, fun _ e => by simp at e, fun e => by simp at e, h.rk, h.ek⟩
            · exact h.ph0
    · split
      · rename_i hp
        have hnx := h.nx (.inr (.inl hp))
        have hs := h.sns (.inr (.inl hp))
        have ht := h.to1 (.inl hp)
        unfold Jb.hasPrepared
        split
        · exact h
        · split
          · exact ⟨h.kd, h.k1, h.k2, h.v, h.m, h.tg, h.at1, h.at4, h.st, by simp, h.sn, fun _ => hs, fun e => by simp at e, fun _ => hnx, fun e _ => h.nxm e (.inr (.inl hp)), fun _ => ht, h.rk, h.ek⟩
          · exact ⟨h.kd, h.k1, h.k2, h.v, h.m, h.tg, h.at1, h.at4, h.st, by simp, h.sn, fun _ => hs, fun e => by simp at e, fun _ => hnx, fun e _ => h.nxm e (.inr (.inl hp)), fun e => by simp at e, h.rk, h.ek⟩
      · split
        · unfold Jb.hasRoom
          split
          · exact h.fin rfl
          · exact h.ph0
        · split
          · rename_i hp
            have hs := h.snm ⟨by omega, by omega⟩
            unfold Jb.hasLooked
            split
            · exact h
            · refine ⟨h.kd, h.k1, h.k2, h.v, h.m, h.tg, h.at1, h.at4, h.st, ?_, h.sn, fun e => ?_, fun _ => hs, fun e => ?_, fun _ e => ?_, fun e => ?_, h.rk, h.ek⟩
              · simp only; split <;> omega
              all_goals (exfalso; revert e; simp only; split <;> omega)
          · split
            · rename_i hp
              have hs := h.snm ⟨by omega, by omega⟩
              unfold Jb.hasPut
              refine ⟨h.kd, h.k1, h.k2, h.v, h.m, h.tg, h.at1, h.at4, h.st, ?_, h.sn, fun e => ?_, fun _ => hs, fun e => ?_, fun _ e => ?_, fun e => ?_, h.rk, h.ek⟩
              · simp only; split <;> omega
              all_goals (exfalso; revert e; simp only; split <;> omega)
            · split
              · rename_i hp
                have hs := h.snm ⟨by omega, by omega⟩
                unfold Jb.hasSealed
                split
                · exact h.fin rfl
                · exact h.follow (by omega)
              · exact h
theorem Ok.new {kd : Int} {k v : List UInt8} {m : Int} {tg at' : Nat} (hkd : 1 ≤ kd ∧ kd ≤ 5) (h1 : 1 ≤ k.length) (h2 : k.length ≤ 15) (hv : v.length ≤ 32) (hm : 0 ≤ m ∧ m ≤ 1099511627775) (ht : tg ≤ 4) (ha : 1 ≤ at') (ha4 : at' ≤ 4) : (Jb.new kd k v m tg at').Ok :=
  ⟨hkd, h1, h2, hv, hm, ht, ha, ha4, by simp [Jb.new], by simp [Jb.new], unsaid_ok 1, fun e => by simp [Jb.new] at e, fun e => by simp [Jb.new] at e, fun e => by simp [Jb.new] at e, fun _ e => by simp [Jb.new] at e, fun e => by simp [Jb.new] at e, rfl, rfl⟩
end Jb
end Go.Proofs.YtflnjlbafchnaaaGreatDoor

/-
  'append' onto a row of the call's own: where what comes of it lies.
-/
namespace Go.Proofs.YtflnjlbafchnaaaGreatDoor
open Go.RowKit
variable {P : Program} (w : World)

theorem run_append_at (base : Nat) (t tx ty e : TypeId) (i : TypeInfo) (z : Value) (size bytes : Nat) (ht : P.underlying t = some (.slice e)) (hi : P.info? e = some i) (hz : i.zero = some z)
    (hsize : i.size = size) (hby : i.bytes = bytes) (hzs : z.cells.size = size)
    (v : Value) (n : Nat) (xs : List Value) (hown : w.ownsRow base e size v n xs) (x : Value) (m : Nat) (news : List Value) (hs : Src P size tx x m news w)
    (h63 : n + m ≤ maxLen) (hbytes : (n + m) * bytes ≤ 140737488355328) (hbase : base ≤ w.heap.size) :
    ∃ v' w', (Builtin.append_ #[t, tx] ty #[v, x]).run P w = .ok v' w' ∧ w'.ownsRow base e size v' (n + m) (xs ++ news) ∧ w.grownBy w' v.ownBlock ∧ ∀ g, v'.ownBlock = some g → v.ownBlock = some g ∨ w.heap.size ≤ g := by
  subst hsize
  subst hby
  have hsmall : n + m ≤ 9223372036854775807 := by simp only [maxLen] at h63; omega
  have hl := hs.newsLen
  have hlen : (xs ++ news).length = (n + m) * i.size := by rw [List.length_append, hown.1, hl, Nat.add_mul]
  have grown : ∀ (old : Nat), ∀ (row : Option Nat),
      (w.drew.alloc (.cells ((xs ++ news).toArray ++ Builtin.zeroCells z.cells (grownCap w (n + m) old e - (n + m))) e)).ownsRow base e i.size
        (.slice (some ⟨w.heap.size, 0, none⟩) (n + m) (grownCap w (n + m) old e)) (n + m) (xs ++ news) ∧
      w.grownBy (w.drew.alloc (.cells ((xs ++ news).toArray ++ Builtin.zeroCells z.cells (grownCap w (n + m) old e - (n + m))) e)) row := by
    intro old row
    have hge := grownCap_ge w (n + m) old e
    have hcm : grownCap w (n + m) old e ≤ maxLen := grownCap_le_maxLen w (n + m) old e h63
    refine ⟨⟨hlen, .inr ⟨w.heap.size, _, _, rfl, hbase, heap_alloc_new w.drew _, hge, hcm, ?_, ?_⟩⟩, ⟨rfl, rfl, rfl, by simp, fun k hk _ => Below.heap_alloc w.drew _ k hk⟩⟩
    · simp only [Array.size_append, List.size_toArray, size_zeroCells, hzs, hlen, ← Nat.add_mul]
      congr 1
      omega
    · simp only [Array.toList_append]
      rw [← hlen]
      exact List.take_left
  rcases hown.2 with ⟨rfl, rfl⟩ | ⟨g, cap, cur, rfl, hbg, hg, hnc, hcm, hcs, htake⟩
  · have hx : xs = [] := List.eq_nil_of_length_eq_zero (by simpa using hown.1)
    subst hx
    by_cases hm : m = 0
    · subst hm
      have hn : news = [] := List.eq_nil_of_length_eq_zero (by simpa using hl)
      subst hn
      refine ⟨.slice none 0 0, w, ?_, World.ownsRow_nil w base e i.size, ⟨rfl, rfl, rfl, Nat.le_refl _, fun _ _ _ => rfl⟩, fun g hg => by simp [Value.ownBlock] at hg⟩
      rcases hs.kind with ⟨e', hk⟩ | hk <;> simp [Builtin.append_, run_underlying ht, run_underlying hk, sizeOf, typeInfo, hi, hs.len, hs.cells]
    · have hr := run_append_grow_src (P := P) w t tx ty e i z ht hi hz none 0 0 [] (run_firstCells_none w.drew i.size 0 0 0) x m news hs (by omega) (by omega) (growslice_fits (by omega) hbytes)
      have hgr := grown 0 (Value.ownBlock (.slice none 0 0))
      exact ⟨_, _, hr, hgr.1, hgr.2, fun g hg => .inr (by simp [Value.ownBlock] at hg; omega)⟩
  · by_cases hroom : n + m ≤ cap
    · have hfit : n * i.size + news.length ≤ cur.size := by rw [hl, hcs, ← Nat.add_mul]; exact Nat.mul_le_mul_right _ hroom
      have hr := room_src (P := P) w t tx ty e i ht hi g n cap cur hg x m news hs hroom hfit
      refine ⟨_, _, hr, ⟨hlen, .inr ⟨g, cap, _, rfl, hbg, setRow_heap w g cur _ e _ hg, hroom, hcm, ?_, ?_⟩⟩, ⟨rfl, rfl, rfl, by simp, fun k _ hk => setRow_other w g k _ (fun e => hk (by simp [Value.ownBlock, e]))⟩, fun g' hg' => .inl (by simpa [Value.ownBlock] using hg')⟩
      · simp only [List.size_toArray, List.length_append, List.length_take, List.length_drop, Array.length_toList]
        omega
      · rw [htake, ← hlen]
        exact List.take_left
    · have holds : ∀ j u, xs[j]? = some u → w.cell? ((⟨g, 0, none⟩ : Addr).add j) = some u := hown.cells (g := g) rfl
      have hr := run_append_grow_src (P := P) w t tx ty e i z ht hi hz (some ⟨g, 0, none⟩) n cap xs (run_firstCells_some w.drew i.size n ⟨g, 0, none⟩ n cap xs hown.1 holds) x m news hs (by omega) (by omega) (growslice_fits (by omega) hbytes)
      have hgr := grown cap (Value.ownBlock (.slice (some ⟨g, 0, none⟩) n cap))
      exact ⟨_, _, hr, hgr.1, hgr.2, fun g hg => .inr (by simp [Value.ownBlock] at hg; omega)⟩

theorem wp_append_at {o : Oper} {a : Act} {K : Act → World → Prop} {Q : Exit → Act → World → Prop} (s xo : Operand) (t tx : TypeId)
    (ho : o.op = .call { callee := .builtin .append, args := #[s, xo], argTypes := #[t, tx] })
    (base : Nat) (e : TypeId) (i : TypeInfo) (z : Value) (size bytes : Nat) (ht : P.underlying t = some (.slice e)) (hi : P.info? e = some i) (hz : i.zero = some z)
    (hsize : i.size = size) (hby : i.bytes = bytes) (hzs : z.cells.size = size)
    (v : Value) (n : Nat) (xs : List Value) (hv : a.eval s = v) (hown : w.ownsRow base e size v n xs) (x : Value) (m : Nat) (news : List Value) (hx : a.eval xo = x) (hs : Src P size tx x m news w)
    (h63 : n + m ≤ maxLen) (hbytes : (n + m) * bytes ≤ 140737488355328) (hbase : base ≤ w.heap.size)
    (h : ∀ v' w', w'.ownsRow base e size v' (n + m) (xs ++ news) → w.grownBy w' v.ownBlock → (∀ g, v'.ownBlock = some g → v.ownBlock = some g ∨ w.heap.size ≤ g) → K (a.put o.dst v') w') : o.wp P a w K Q := by
  obtain ⟨v', w', hr, h2, h3, h4⟩ := run_append_at (P := P) w base t tx o.type e i z size bytes ht hi hz hsize hby hzs v n xs hown x m news hs h63 hbytes hbase
  unfold Oper.wp execOp
  simp only [ho, resolve, invoke, builtin, Sem.run_bind, Sem.run_pure, Result.andThen_ok, List.map_toArray, List.map_cons, List.map_nil, hv, hx, hr]
  exact h v' w' h2 h3 h4

theorem wpList_append_at {ops : Array Oper} {rest : List Oper} {o : Oper} {a : Act} {Q : Exit → Act → World → Prop} (hgd : o.guard = none) (s xo : Operand) (t tx : TypeId)
    (ho : o.op = .call { callee := .builtin .append, args := #[s, xo], argTypes := #[t, tx] })
    (base : Nat) (e : TypeId) (i : TypeInfo) (z : Value) (size bytes : Nat) (ht : P.underlying t = some (.slice e)) (hi : P.info? e = some i) (hz : i.zero = some z)
    (hsize : i.size = size) (hby : i.bytes = bytes) (hzs : z.cells.size = size)
    (v : Value) (n : Nat) (xs : List Value) (hv : a.eval s = v) (hown : w.ownsRow base e size v n xs) (x : Value) (m : Nat) (news : List Value) (hx : a.eval xo = x) (hs : Src P size tx x m news w)
    (h63 : n + m ≤ maxLen) (hbytes : (n + m) * bytes ≤ 140737488355328) (hbase : base ≤ w.heap.size)
    (h : ∀ ao c w', w'.ownsRow base e size (.slice ao (n + m) c) (n + m) (xs ++ news) → w.grownBy w' v.ownBlock → (∀ g, (Value.slice ao (n + m) c).ownBlock = some g → v.ownBlock = some g ∨ w.heap.size ≤ g) → wpList P ops Q rest (a.put o.dst (.slice ao (n + m) c)) w') : wpList P ops Q (o :: rest) a w :=
  wpList_plain hgd fun _ hK => wp_append_at w s xo t tx ho base e i z size bytes ht hi hz hsize hby hzs v n xs hv hown x m news hx hs h63 hbytes hbase fun v' w' h2 h3 h4 => by
    obtain ⟨ao, c, rfl⟩ := own_shape h2
    exact hK _ _ (h ao c w' h2 h3 h4)

end Go.Proofs.YtflnjlbafchnaaaGreatDoor

/-
  Transactions: one in memory.
-/
namespace Go.Proofs.YtflnjlbafchnaaaGreatDoor
open Go.RowKit

def intC (zs : List Int) : List Value := zs.map fun z => Value.int .i64 z
theorem intC_snoc (zs : List Int) (z : Int) : intC (zs ++ [z]) = intC zs ++ [.int .i64 z] := by simp [intC]
/-- Numbers of one's own. -/
def OwnI (B : Nat) (w : World) (ao : Option Addr) (c : Nat) (zs : List Int) : Prop := w.ownsRow B 3 1 (.slice ao zs.length c) zs.length (intC zs)
theorem OwnI.keptX {B c : Nat} {w w' : World} {ao : Option Addr} {zs : List Int} {X : Nat → Obj → Prop} (h : OwnI B w ao c zs) (hk : Kept X w w') (hX : ∀ a, ao = some a → ∀ o, ¬ X a.block o) : OwnI B w' ao c zs := by
  refine ⟨h.1, h.2.imp id ?_⟩
  rintro ⟨g, cap, cur, h1, h2, h3, h4⟩
  simp only [Value.slice.injEq] at h1
  refine ⟨g, cap, cur, by simp [h1], h2, hk.block _ _ h3 (hX _ h1.1 _), h4⟩
theorem OwnI.kept {B c : Nat} {w w' : World} {ao : Option Addr} {zs : List Int} (h : OwnI B w ao c zs) (hk : Kept Nil w w') : OwnI B w' ao c zs := h.keptX hk (fun _ _ _ x => x.elim)
theorem OwnI.lt {B c : Nat} {w : World} {ao : Option Addr} {zs : List Int} (h : OwnI B w ao c zs) : ∀ a, ao = some a → B ≤ a.block ∧ ∃ cur fr, w.heap[a.block]? = some (.cells cur 3 fr) := fun a ha => by
  rcases h.2 with ⟨h1, _⟩ | ⟨g, cap, cur, h1, h2, h3, _⟩
  · simp at h1
    rw [h1.1] at ha
    cases ha
  · simp only [Value.slice.injEq] at h1
    rw [h1.1] at ha
    cases ha
    exact ⟨h2, _, _, h3⟩
/-- A row of parts that lies below block B. -/
def PtRow (B : Nat) (w : World) (ao : Option Addr) (ps : List Pt) : Prop := ∀ j, (hj : j < ps.length) → ∃ a, ao = some a ∧ a.block < B ∧ w.cell? (a.add (j * 2)) = some (.string (bs ps[j].k)) ∧ w.cell? ⟨(a.add (j * 2)).block, (a.add (j * 2)).off + 1, none⟩ = some (.int .i64 ps[j].a)
theorem PtRow.keptX {B : Nat} {w w' : World} {ao : Option Addr} {ps : List Pt} {X : Nat → Obj → Prop} (h : PtRow B w ao ps) (hk : Kept X w w') (hX : ∀ a, ao = some a → ∀ o, ¬ X a.block o) : PtRow B w' ao ps := fun j hj => by
  obtain ⟨a, ha, hb, c0, c1⟩ := h j hj
  have hx := hX a ha
  refine ⟨a, ha, hb, cell_kept hk (by rw [show (a.add (j * 2)).block = a.block from by unfold Addr.add; split <;> rfl]; exact hx) c0, cell_kept hk (by show ∀ o, ¬ X (a.add (j * 2)).block o; rw [show (a.add (j * 2)).block = a.block from by unfold Addr.add; split <;> rfl]; exact hx) c1⟩
/-- A transaction's block. -/
def TxAt (w : World) (b : Nat) (t : Tx) (ap oo : Option Addr) (cp oc : Nat) : Prop := w.heap[b]? = some (.cells #[.int .i64 t.id, .slice ap t.ps.length cp, .int .i64 t.st, .slice oo t.old.length oc, .int .i64 t.ph, .int .i64 t.at', .int .i64 t.sn.n, .int .i64 t.sn.b, .int .i64 t.sn.t, .int .i64 t.vr, .bool t.hd, .int .i64 t.hv] 106 (0, 0))
theorem TxAt.s2 {w : World} {b : Nat} {t : Tx} {ap oo : Option Addr} {cp oc : Nat} (h : TxAt w b t ap oo cp oc) (x : Nat) : TxAt (w.setCell ⟨b, 2, none⟩ (.int .i64 (x : Nat))) b { t with st := x } ap oo cp oc := blk_set h 2 _
theorem TxAt.s4 {w : World} {b : Nat} {t : Tx} {ap oo : Option Addr} {cp oc : Nat} (h : TxAt w b t ap oo cp oc) (x : Nat) : TxAt (w.setCell ⟨b, 4, none⟩ (.int .i64 (x : Nat))) b { t with ph := x } ap oo cp oc := blk_set h 4 _
theorem TxAt.s5 {w : World} {b : Nat} {t : Tx} {ap oo : Option Addr} {cp oc : Nat} (h : TxAt w b t ap oo cp oc) (x : Nat) : TxAt (w.setCell ⟨b, 5, none⟩ (.int .i64 (x : Nat))) b { t with at' := x } ap oo cp oc := blk_set h 5 _
theorem TxAt.s9 {w : World} {b : Nat} {t : Tx} {ap oo : Option Addr} {cp oc : Nat} (h : TxAt w b t ap oo cp oc) (x : Int) : TxAt (w.setCell ⟨b, 9, none⟩ (.int .i64 x)) b { t with vr := x } ap oo cp oc := blk_set h 9 _
theorem TxAt.s10 {w : World} {b : Nat} {t : Tx} {ap oo : Option Addr} {cp oc : Nat} (h : TxAt w b t ap oo cp oc) (x : Bool) : TxAt (w.setCell ⟨b, 10, none⟩ (.bool x)) b { t with hd := x } ap oo cp oc := blk_set h 10 _
theorem TxAt.s11 {w : World} {b : Nat} {t : Tx} {ap oo : Option Addr} {cp oc : Nat} (h : TxAt w b t ap oo cp oc) (x : Int) : TxAt (w.setCell ⟨b, 11, none⟩ (.int .i64 x)) b { t with hv := x } ap oo cp oc := blk_set h 11 _
theorem TxAt.s678 {w : World} {b : Nat} {t : Tx} {ap oo : Option Addr} {cp oc : Nat} (h : TxAt w b t ap oo cp oc) (x : Hd) : TxAt (((w.setCell ⟨b, 6, none⟩ (.int .i64 x.n)).setCell ⟨b, 7, none⟩ (.int .i64 x.b)).setCell ⟨b, 8, none⟩ (.int .i64 x.t)) b { t with sn := x } ap oo cp oc := blk_set (blk_set (blk_set h 6 _) 7 _) 8 _
theorem TxAt.s3 {w : World} {b : Nat} {t : Tx} {ap oo : Option Addr} {cp oc : Nat} (h : TxAt w b t ap oo cp oc) (ao : Option Addr) (c : Nat) (zs : List Int) : TxAt (w.setCell ⟨b, 3, none⟩ (.slice ao zs.length c)) b { t with old := zs } ap ao cp c := blk_set h 3 _
theorem TxAt.keptX {w w' : World} {b : Nat} {t : Tx} {ap oo : Option Addr} {cp oc : Nat} {X : Nat → Obj → Prop} (h : TxAt w b t ap oo cp oc) (hk : Kept X w w') (hX : ∀ o, ¬ X b o) : TxAt w' b t ap oo cp oc := hk.block _ _ h (hX _)
theorem TxAt.kept {w w' : World} {b : Nat} {t : Tx} {ap oo : Option Addr} {cp oc : Nat} (h : TxAt w b t ap oo cp oc) (hk : Kept Nil w w') : TxAt w' b t ap oo cp oc := hk.block _ _ h (fun x => x.elim)
set_option maxRecDepth 100000 in
set_option maxHeartbeats 2000000 in
theorem further_any (w : World) (b : Nat) (t : Tx) (ap oo : Option Addr) (cp oc : Nat) (h : TxAt w b t ap oo cp oc) (p be : Nat) (hl : t.ps.length ≤ 4) (ha : t.at' < t.ps.length) :
    Calls Tryz.prog 64 #[.pointer (some ⟨b, 0, none⟩), .int .i64 p, .int .i64 be] w fun e w' => e = .returned (.tuple #[]) ∧ TxAt w' b (t.further p be) ap oo cp oc ∧ Kept (One b) w w' := by
  obtain ⟨u, HU⟩ : ∃ u, Hid (u = t.further p be) := ⟨_, rfl⟩
  rw [← HU.out]
  have hlt : b < w.heap.size := lt_of_block h
  have q1 : w.cell? ⟨b, 1, none⟩ = some (.slice ap t.ps.length cp) := blk_at h 1 rfl
  have q4 : w.cell? ⟨b, 4, none⟩ = some (.int .i64 t.ph) := blk_at h 4 rfl
  have q5 : w.cell? ⟨b, 5, none⟩ = some (.int .i64 t.at') := blk_at h 5 rfl
  have f4 : w.frozen? ⟨b, 4, none⟩ = false := blk_free h 4
  have f5 : w.frozen? ⟨b, 5, none⟩ = false := blk_free h 5
  by_cases c : t.at' + 1 = t.ps.length
  · have hb : (((t.at' : Int) + 1) == (t.ps.length : Int)) = true := by simp; omega
    obtain ⟨V, hV⟩ : ∃ V, V = ((w.setCell ⟨b, 5, none⟩ (.int .i64 ((t.at' : Int) + 1))).setCell ⟨b, 4, none⟩ (.int .i64 p)) := ⟨_, rfl⟩
    have HT : Hid (TxAt V b { t with at' := t.at' + 1, ph := p } ap oo cp oc) := by
      have := (h.s5 (t.at' + 1)).s4 p
      rw [hV]
      exact this
    have HK : Hid (Kept (One b) w V) := by rw [hV]; exact (((Kept.refl _ _).setCell (p := ⟨b, 5, none⟩) (fun _ => rfl) _).setCell (p := ⟨b, 4, none⟩) (fun _ => rfl) _)
    have j1 : V.cell? ⟨b, 1, none⟩ = some (.slice ap t.ps.length cp) := blk_at HT.out 1 rfl
    have j4 : V.cell? ⟨b, 4, none⟩ = some (.int .i64 p) := blk_at HT.out 4 rfl
    have j5 : V.cell? ⟨b, 5, none⟩ = some (.int .i64 ((t.at' : Int) + 1)) := blk_at HT.out 5 rfl
    have g4 : V.frozen? ⟨b, 4, none⟩ = false := blk_free HT.out 4
    have g5 : V.frozen? ⟨b, 5, none⟩ = false := blk_free HT.out 5
    clear h
    go_enter Tryz.func64, Tryz.ntmps64
    go_upto_region 2 with fail
    rw [← hV]
    clear hV q1 q4 q5 f4 f5
    obtain ⟨Y, hY⟩ : ∃ Y, Y = ((V.setCell ⟨b, 5, none⟩ (.int .i64 0)).setCell ⟨b, 4, none⟩ (.int .i64 be)).drew := ⟨_, rfl⟩
    have HY : Hid (TxAt Y b u ap oo cp oc ∧ Kept (One b) w Y) := by
      rw [HU.out]
      unfold Tx.further
      rw [if_pos c, hY]
      exact ⟨((HT.out.s5 0).s4 be), (((HK.out.setCell (p := ⟨b, 5, none⟩) (fun _ => rfl) _).setCell (p := ⟨b, 4, none⟩) (fun _ => rfl) _)).drew⟩
    clear c
    go_region
    all_goals
      go_wp2
      rw [← hY]
      go_end0
      exact ⟨rfl, HY.out⟩
  · have hb : (((t.at' : Int) + 1) == (t.ps.length : Int)) = false := by simp; omega
    obtain ⟨V, hV⟩ : ∃ V, V = ((w.setCell ⟨b, 5, none⟩ (.int .i64 ((t.at' : Int) + 1))).setCell ⟨b, 4, none⟩ (.int .i64 p)) := ⟨_, rfl⟩
    have HT : Hid (TxAt V b { t with at' := t.at' + 1, ph := p } ap oo cp oc) := by
      have := (h.s5 (t.at' + 1)).s4 p
      rw [hV]
      exact this
    have HK : Hid (Kept (One b) w V) := by rw [hV]; exact (((Kept.refl _ _).setCell (p := ⟨b, 5, none⟩) (fun _ => rfl) _).setCell (p := ⟨b, 4, none⟩) (fun _ => rfl) _)
    have j1 : V.cell? ⟨b, 1, none⟩ = some (.slice ap t.ps.length cp) := blk_at HT.out 1 rfl
    have j4 : V.cell? ⟨b, 4, none⟩ = some (.int .i64 p) := blk_at HT.out 4 rfl
    have j5 : V.cell? ⟨b, 5, none⟩ = some (.int .i64 ((t.at' : Int) + 1)) := blk_at HT.out 5 rfl
    have g4 : V.frozen? ⟨b, 4, none⟩ = false := blk_free HT.out 4
    have g5 : V.frozen? ⟨b, 5, none⟩ = false := blk_free HT.out 5
    clear h
    go_enter Tryz.func64, Tryz.ntmps64
    go_upto_region 2 with fail
    rw [← hV]
    clear hV q1 q4 q5 f4 f5
    have HY : Hid (TxAt V.drew b u ap oo cp oc ∧ Kept (One b) w V.drew) := by
      rw [HU.out]
      unfold Tx.further
      rw [if_neg c]
      exact ⟨HT.out, HK.out.drew⟩
    clear c
    go_region
    all_goals
      go_wp2
      go_end0
      exact ⟨rfl, HY.out⟩
set_option maxRecDepth 100000 in
set_option maxHeartbeats 2000000 in
theorem begun_any (w : World) (b : Nat) (t : Tx) (ap oo : Option Addr) (cp oc : Nat) (h : TxAt w b t ap oo cp oc) (ok : Bool) :
    Calls Tryz.prog 58 #[.pointer (some ⟨b, 0, none⟩), .bool ok] w fun e w' => e = .returned (.tuple #[]) ∧ TxAt w' b (t.begun ok) ap oo cp oc ∧ Kept (One b) w w' := by
  obtain ⟨u, HU⟩ : ∃ u, Hid (u = t.begun ok) := ⟨_, rfl⟩
  rw [← HU.out]
  have q2 : w.cell? ⟨b, 2, none⟩ = some (.int .i64 t.st) := blk_at h 2 rfl
  have q4 : w.cell? ⟨b, 4, none⟩ = some (.int .i64 t.ph) := blk_at h 4 rfl
  have q5 : w.cell? ⟨b, 5, none⟩ = some (.int .i64 t.at') := blk_at h 5 rfl
  have f2 : w.frozen? ⟨b, 2, none⟩ = false := blk_free h 2
  have f4 : w.frozen? ⟨b, 4, none⟩ = false := blk_free h 4
  have f5 : w.frozen? ⟨b, 5, none⟩ = false := blk_free h 5
  cases ok with
  | true =>
    obtain ⟨Y, hY⟩ : ∃ Y, Y = (w.setCell ⟨b, 4, none⟩ (.int .i64 1)) := ⟨_, rfl⟩
    have HY : Hid (TxAt Y b u ap oo cp oc ∧ Kept (One b) w Y) := by
      rw [HU.out, hY]
      exact ⟨(h.s4 1), ((Kept.refl _ _).setCell (p := ⟨b, 4, none⟩) (fun _ => rfl) _)⟩
    clear h
    go_enter Tryz.func58, Tryz.ntmps58
    go_wp2
    rw [← hY]
    go_end0
    exact ⟨rfl, HY.out⟩
  | false =>
    obtain ⟨Y, hY⟩ : ∃ Y, Y = (((w.setCell ⟨b, 4, none⟩ (.int .i64 1)).setCell ⟨b, 2, none⟩ (.int .i64 3)).setCell ⟨b, 4, none⟩ (.int .i64 10)) := ⟨_, rfl⟩
    have HY : Hid (TxAt Y b u ap oo cp oc ∧ Kept (One b) w Y) := by
      rw [HU.out, hY]
      exact ⟨(((h.s4 1).s2 3).s4 10), ((((Kept.refl _ _).setCell (p := ⟨b, 4, none⟩) (fun _ => rfl) _).setCell (p := ⟨b, 2, none⟩) (fun _ => rfl) _).setCell (p := ⟨b, 4, none⟩) (fun _ => rfl) _)⟩
    clear h
    go_enter Tryz.func58, Tryz.ntmps58
    go_wp2
    rw [← hY]
    go_end0
    exact ⟨rfl, HY.out⟩
set_option maxRecDepth 100000 in
set_option maxHeartbeats 2000000 in
theorem settle_any (w : World) (b : Nat) (t : Tx) (ap oo : Option Addr) (cp oc : Nat) (h : TxAt w b t ap oo cp oc) (ok : Bool) :
    Calls Tryz.prog 62 #[.pointer (some ⟨b, 0, none⟩), .bool ok] w fun e w' => e = .returned (.tuple #[]) ∧ TxAt w' b (t.settle ok) ap oo cp oc ∧ Kept (One b) w w' := by
  obtain ⟨u, HU⟩ : ∃ u, Hid (u = t.settle ok) := ⟨_, rfl⟩
  rw [← HU.out]
  have q2 : w.cell? ⟨b, 2, none⟩ = some (.int .i64 t.st) := blk_at h 2 rfl
  have q4 : w.cell? ⟨b, 4, none⟩ = some (.int .i64 t.ph) := blk_at h 4 rfl
  have q5 : w.cell? ⟨b, 5, none⟩ = some (.int .i64 t.at') := blk_at h 5 rfl
  have f2 : w.frozen? ⟨b, 2, none⟩ = false := blk_free h 2
  have f4 : w.frozen? ⟨b, 4, none⟩ = false := blk_free h 4
  have f5 : w.frozen? ⟨b, 5, none⟩ = false := blk_free h 5
  cases ok with
  | true =>
    obtain ⟨Y, hY⟩ : ∃ Y, Y = ((((w.setCell ⟨b, 2, none⟩ (.int .i64 3)).setCell ⟨b, 2, none⟩ (.int .i64 2)).setCell ⟨b, 5, none⟩ (.int .i64 0)).setCell ⟨b, 4, none⟩ (.int .i64 8)) := ⟨_, rfl⟩
    have HY : Hid (TxAt Y b u ap oo cp oc ∧ Kept (One b) w Y) := by
      rw [HU.out, hY]
      exact ⟨((((h.s2 3).s2 2).s5 0).s4 8), (((((Kept.refl _ _).setCell (p := ⟨b, 2, none⟩) (fun _ => rfl) _).setCell (p := ⟨b, 2, none⟩) (fun _ => rfl) _).setCell (p := ⟨b, 5, none⟩) (fun _ => rfl) _).setCell (p := ⟨b, 4, none⟩) (fun _ => rfl) _)⟩
    clear h
    go_enter Tryz.func62, Tryz.ntmps62
    go_wp2
    rw [← hY]
    go_end0
    exact ⟨rfl, HY.out⟩
  | false =>
    obtain ⟨Y, hY⟩ : ∃ Y, Y = (((w.setCell ⟨b, 2, none⟩ (.int .i64 3)).setCell ⟨b, 5, none⟩ (.int .i64 0)).setCell ⟨b, 4, none⟩ (.int .i64 8)) := ⟨_, rfl⟩
    have HY : Hid (TxAt Y b u ap oo cp oc ∧ Kept (One b) w Y) := by
      rw [HU.out, hY]
      exact ⟨(((h.s2 3).s5 0).s4 8), ((((Kept.refl _ _).setCell (p := ⟨b, 2, none⟩) (fun _ => rfl) _).setCell (p := ⟨b, 5, none⟩) (fun _ => rfl) _).setCell (p := ⟨b, 4, none⟩) (fun _ => rfl) _)⟩
    clear h
    go_enter Tryz.func62, Tryz.ntmps62
    go_wp2
    rw [← hY]
    go_end0
    exact ⟨rfl, HY.out⟩
set_option maxRecDepth 100000 in
set_option maxHeartbeats 2000000 in
theorem versionOf_any (r : Rr) (ko : Option Addr) (kc : Nat) (w : World) :
    Calls Tryz.prog 109 #[rrV r ko kc] w fun e w' => e = .returned (.int .i64 (versR r)) ∧ Kept Nil w w' := by
  obtain ⟨s, HS⟩ : ∃ s, Hid (s = versR r) := ⟨_, rfl⟩
  rw [← HS.out]
  obtain ⟨kd, v, n, ks⟩ := r
  unfold rrV
  by_cases c : kd = 1
  · obtain rfl : s = n := by rw [HS.out]; unfold versR; simp [c]
    subst c
    go_enter Tryz.func109, Tryz.ntmps109
    go_wp2
    go_ret
    exact ⟨rfl, (Kept.refl _ _).alloc _⟩
  · obtain rfl : s = 0 := by rw [HS.out]; unfold versR; simp [c]
    go_enter Tryz.func109, Tryz.ntmps109
    go_wp2
    go_ret
    exact ⟨rfl, (Kept.refl _ _).alloc _⟩
def cdV (c : Cd) : Value := .agg #[.int .i64 c.kd, .string (bs c.k), .string (bs c.v), .int .i64 c.m]
set_option maxRecDepth 100000 in
set_option maxHeartbeats 2000000 in
theorem swapCommand_any (k v : List UInt8) (m : Int) (w : World) :
    Calls Tryz.prog 48 #[.string (bs k), .string (bs v), .int .i64 m] w fun e w' => e = .returned (.agg #[.int .i64 4, .string (bs k), .string (bs v), .int .i64 m]) ∧ Kept Nil w w' := by
  go_enter Tryz.func48, Tryz.ntmps48
  go_wp2
  exact bodyPost_ret (v := .agg #[.int .i64 4, .string (bs k), .string (bs v), .int .i64 m]) (by simp [results, Tryz.results48, go_sem]) rfl ⟨rfl, (Kept.refl _ _).alloc _⟩
set_option maxRecDepth 100000 in
set_option maxHeartbeats 2000000 in
theorem key_any (w : World) (b : Nat) (t : Tx) (ap oo : Option Addr) (cp oc : Nat) (h : TxAt w b t ap oo cp oc) (B : Nat) (hp : PtRow B w ap t.ps) (ha : t.at' < t.ps.length) (hk : t.part.k.length ≤ 140737488355328) :
    Calls Tryz.prog 51 #[.pointer (some ⟨b, 0, none⟩)] w fun e w' => e = .returned (.string (bs t.key)) ∧ Kept Nil w w' := by
  obtain ⟨a, ea, _, c0, c1⟩ := hp t.at' ha
  have e0 : t.ps[t.at'] = t.part := by unfold Tx.part; rw [List.getElem?_eq_getElem ha]; rfl
  rw [e0] at c0 c1
  have hlt : b < w.heap.size := lt_of_block h
  have q1 : w.cell? ⟨b, 1, none⟩ = some (.slice ap t.ps.length cp) := blk_at h 1 rfl
  have q5 : w.cell? ⟨b, 5, none⟩ = some (.int .i64 t.at') := blk_at h 5 rfl
  rw [ea] at q1
  have AK := fun X => amountKey_any t.part.k hk X
  clear h hp e0
  go_enter Tryz.func51, Tryz.ntmps51
  go_wp2
  go_region_with (go_at_call 75; go_must (go_fit (AK _); rintro _ wq ⟨rfl, rfl⟩))
  all_goals
    go_wp2
    go_ret
    exact ⟨rfl, by repeat (first | exact Kept.refl _ _ | refine Kept.drew ?_)⟩
set_option maxRecDepth 100000 in
set_option maxHeartbeats 2000000 in
theorem held_any (w : World) (b : Nat) (t : Tx) (ap oo : Option Addr) (cp oc : Nat) (h : TxAt w b t ap oo cp oc) (B : Nat) (hp : PtRow B w ap t.ps) (ha : t.at' < t.ps.length) (hz : -999999999 ≤ t.part.a ∧ t.part.a ≤ 999999999) (hn : t.sn.n ≤ 999999999) :
    Calls Tryz.prog 53 #[.pointer (some ⟨b, 0, none⟩)] w fun e w' => e = .returned (.agg #[.int .i64 t.sn.n, .int .i64 t.id, .int .i64 t.thenZ]) ∧ Kept Nil w w' := by
  obtain ⟨a, ea, hab, c0, c1⟩ := hp t.at' ha
  have e0 : t.ps[t.at'] = t.part := by unfold Tx.part; rw [List.getElem?_eq_getElem ha]; rfl
  rw [e0] at c0 c1
  have hlt : b < w.heap.size := lt_of_block h
  have hal : (a.add (t.at' * 2)).block < w.heap.size := World.block_lt_of_cell? w _ c0
  obtain ⟨z, HZ⟩ : ∃ z, Hid (z = t.thenZ) := ⟨_, rfl⟩
  have hsum : (t.sn.n : Int) + t.part.a = z := HZ.out.symm
  rw [← HZ.out]
  have q0 : w.cell? ⟨b, 0, none⟩ = some (.int .i64 t.id) := blk_at h 0 rfl
  have q1 : w.cell? ⟨b, 1, none⟩ = some (.slice ap t.ps.length cp) := blk_at h 1 rfl
  have q5 : w.cell? ⟨b, 5, none⟩ = some (.int .i64 t.at') := blk_at h 5 rfl
  have q6 : w.cell? ⟨b, 6, none⟩ = some (.int .i64 t.sn.n) := blk_at h 6 rfl
  rw [ea] at q1
  clear h hp e0
  go_enter Tryz.func53, Tryz.ntmps53
  go_wp2
  go_region
  all_goals
    go_wp2
    exact bodyPost_ret (v := .agg #[.int .i64 t.sn.n, .int .i64 t.id, .int .i64 z]) (by simp [results, Tryz.results53, go_sem]) rfl ⟨rfl, by repeat (first | exact Kept.refl _ _ | refine Kept.drew ?_ | refine Kept.alloc ?_ _)⟩
set_option maxRecDepth 100000 in
set_option maxHeartbeats 2000000 in
theorem text_none (n : Nat) (z : Int) (w : World) (hL : LD w) (hn : n ≤ 999999999) :
    Calls Tryz.prog 106 #[.agg #[.int .i64 n, .int .i64 0, .int .i64 z]] w fun e w' => e = .returned (.string (bs (Tx.numT n 0 z))) ∧ Kept Nil w w' := by
  have IT := fun X (hX : LD X) => itoa_any n (by omega) (by omega) X hX
  rw [itoa_nat] at IT
  have HL : Hid (LD (w.alloc (.cells #[.int .i64 n, .int .i64 0, .int .i64 z] 104))) := hL.kept ((Kept.refl _ _).alloc _)
  clear hL
  have IT' := IT _ HL.out
  go_enter Tryz.func106, Tryz.ntmps106
  go_wp2_with fail
  go_fit IT'
  rintro _ w1 ⟨rfl, k1⟩
  have K1 : Hid (Kept Nil w w1) := ((Kept.refl _ _).alloc _).trans k1
  clear k1 IT IT'
  go_wp2
  go_ret
  exact ⟨rfl, K1.out⟩
set_option maxRecDepth 100000 in
set_option maxHeartbeats 2000000 in
theorem text_held (n b : Nat) (z : Int) (w : World) (hL : LD w) (hn : n ≤ 999999999) (hb0 : 1 ≤ b) (hb : b ≤ 999) (hz0 : 0 ≤ z) (hz : z ≤ 999999999) :
    Calls Tryz.prog 106 #[.agg #[.int .i64 n, .int .i64 b, .int .i64 z]] w fun e w' => e = .returned (.string (bs (Tx.numT n b z))) ∧ Kept Nil w w' := by
  obtain ⟨y, HYe⟩ : ∃ y, Hid (y = Tx.numT n b z) := ⟨_, rfl⟩
  rw [← HYe.out]
  obtain ⟨W, hW⟩ : ∃ W, W = w.alloc (.cells #[.int .i64 n, .int .i64 b, .int .i64 z] 104) := ⟨_, rfl⟩
  obtain ⟨A, HAe⟩ : ∃ A, Hid (A = w.heap.size) := ⟨_, rfl⟩
  have KW : Hid (Kept Nil w W) := by rw [hW]; exact (Kept.refl _ _).alloc _
  have HAW : Hid (W.heap[A]? = some (.cells #[.int .i64 n, .int .i64 b, .int .i64 z] 104 (0, 0))) := by rw [hW, HAe.out]; exact blk_new _ _
  have HLW : Hid (LD W) := hL.kept KW.out
  have SS : ∀ X, Kept Nil W X → X.cell? ⟨A, 0, none⟩ = some (.int .i64 n) ∧ X.cell? ⟨A, 1, none⟩ = some (.int .i64 b) ∧ X.cell? ⟨A, 2, none⟩ = some (.int .i64 z) := fun X kX =>
    ⟨blk_at (kX.block _ _ HAW.out (fun x => x.elim)) 0 rfl, blk_at (kX.block _ _ HAW.out (fun x => x.elim)) 1 rfl, blk_at (kX.block _ _ HAW.out (fun x => x.elim)) 2 rfl⟩
  have I1 : ∀ X, Kept Nil W X → Calls Tryz.prog 105 #[.int .i64 n] X fun e w' => e = .returned (.string (bs (Lib.decDigits n))) ∧ Kept Nil X w' := fun X kX => by
    have := itoa_any n (by omega) (by omega) X (HLW.out.kept kX)
    rw [itoa_nat] at this
    exact this
  have I2 : ∀ X, Kept Nil W X → Calls Tryz.prog 105 #[.int .i64 b] X fun e w' => e = .returned (.string (bs (Lib.decDigits b))) ∧ Kept Nil X w' := fun X kX => by
    have := itoa_any b (by omega) (by omega) X (HLW.out.kept kX)
    rw [itoa_nat] at this
    exact this
  have I3 : ∀ X, Kept Nil W X → Calls Tryz.prog 105 #[.int .i64 z] X fun e w' => e = .returned (.string (bs (Lib.itoa z))) ∧ Kept Nil X w' := fun X kX => itoa_any z (by omega) (by omega) X (HLW.out.kept kX)
  have g1 : bs (Lib.decDigits n) ++ (⟨#[32]⟩ : ByteArray) = bs (Lib.decDigits n ++ [32]) := bs_append _ [32]
  have g2 : bs (Lib.decDigits n ++ [32]) ++ bs (Lib.decDigits b) = bs (Lib.decDigits n ++ 32 :: Lib.decDigits b) := by rw [bs_append]; simp
  have g3 : bs (Lib.decDigits n ++ 32 :: Lib.decDigits b) ++ (⟨#[32]⟩ : ByteArray) = bs (Lib.decDigits n ++ 32 :: (Lib.decDigits b ++ [32])) := by
    show _ ++ bs [32] = _
    rw [bs_append]
    simp
  have g4 : bs (Lib.decDigits n ++ 32 :: (Lib.decDigits b ++ [32])) ++ bs (Lib.itoa z) = bs y := by
    rw [bs_append, HYe.out]
    unfold Tx.numT
    rw [if_neg (by omega)]
    simp
  have cat : ∀ (p q r : ByteArray), p ++ q = r → p.size ≤ 1000 → q.size ≤ 1000 → ∀ X, (Op.stringOp .add p q).run Tryz.prog X = .ok (.string r) X := fun p q r e h1 h2 X => by
    unfold Op.stringOp
    simp only
    rw [if_neg (by have e : IntKind.i64.max = 9223372036854775807 := rfl; omega), e]
    rfl
  have z1 : (bs (Lib.decDigits n)).size ≤ 9 := by rw [bs_size]; exact digits_len9 (by omega)
  have z2 : (bs (Lib.decDigits b)).size ≤ 9 := by rw [bs_size]; exact digits_len9 (by omega)
  have z3 : (bs (Lib.itoa z)).size ≤ 9 := by
    obtain ⟨m, rfl⟩ : ∃ m : Nat, z = m := ⟨z.toNat, by omega⟩
    rw [bs_size, itoa_nat]
    exact digits_len9 (by omega)
  have z4 : (bs (Lib.decDigits n ++ [32])).size ≤ 10 := by rw [bs_size] at z1 ⊢; simp; omega
  have z5 : (bs (Lib.decDigits n ++ 32 :: Lib.decDigits b)).size ≤ 19 := by rw [bs_size] at z1 z2 ⊢; simp; omega
  have z6 : (bs (Lib.decDigits n ++ 32 :: (Lib.decDigits b ++ [32]))).size ≤ 20 := by rw [bs_size] at z1 z2 ⊢; simp; omega
  have z7 : (⟨#[32]⟩ : ByteArray).size = 1 := rfl
  have t1 := cat _ _ _ g1 (by omega) (by rw [z7]; omega)
  have t2 := cat _ _ _ g2 (by omega) (by omega)
  have t3 := cat _ _ _ g3 (by omega) (by rw [z7]; omega)
  have t4 := cat _ _ _ g4 (by omega) (by omega)
  clear cat
  have m0 : IntKind.i64.max = 9223372036854775807 := rfl
  have y1 : ¬ ((((bs (Lib.decDigits n)).size + (⟨#[32]⟩ : ByteArray).size : Nat) : Int) > IntKind.i64.max) := by rw [z7, m0]; omega
  have y2 : ¬ ((((bs (Lib.decDigits n ++ [32])).size + (bs (Lib.decDigits b)).size : Nat) : Int) > IntKind.i64.max) := by rw [m0]; omega
  have y3 : ¬ ((((bs (Lib.decDigits n ++ 32 :: Lib.decDigits b)).size + (⟨#[32]⟩ : ByteArray).size : Nat) : Int) > IntKind.i64.max) := by rw [z7, m0]; omega
  have y4 : ¬ ((((bs (Lib.decDigits n ++ 32 :: (Lib.decDigits b ++ [32]))).size + (bs (Lib.itoa z)).size : Nat) : Int) > IntKind.i64.max) := by rw [m0]; omega
  clear m0
  have hc0 : ((b : Int) == 0) = false := by simp; omega
  have s0 := SS W (Kept.refl _ _)
  clear hL
  go_enter Tryz.func106, Tryz.ntmps106
  go_upto_region 3 with fail
  rw [← hW, ← HAe.out]
  clear hW
  go_region_held3 (fun w' => w'.cell? ⟨A, 0, none⟩ = some (.int .i64 n) ∧ w'.cell? ⟨A, 1, none⟩ = some (.int .i64 b) ∧ w'.cell? ⟨A, 2, none⟩ = some (.int .i64 z)) (first | assumption | go_keep) (first | (go_at_call 105; go_fit (I1 W.drew ((Kept.refl _ _).drew)); rintro e wa ⟨rfl, ka⟩; have Ka : Hid (Kept Nil W wa) := ((Kept.refl _ _).drew).trans ka; have sa := SS wa Ka.out) | (go_at_call 105; go_fit (I2 wa Ka.out); rintro e wb ⟨rfl, kb⟩; have Kb : Hid (Kept Nil W wb) := Ka.out.trans kb; have sb := SS wb Kb.out) | (go_at_call 105; go_fit (I3 wb Kb.out); rintro e wc ⟨rfl, kc⟩; have Kc : Hid (Kept Nil W wc) := Kb.out.trans kc; have sc := SS wc Kc.out))
  go_wp2
  go_ret
  exact ⟨rfl, KW.out.trans Kc.out⟩
end Go.Proofs.YtflnjlbafchnaaaGreatDoor

/-
  Cells: the small functions of the program: tail, text, unsaid, arrived, left, towards, the keys and commands, fits, isLost.
-/
namespace Go.Proofs.YtflnjlbafchnaaaGreatDoor
open Go.RowKit

def ctV (v : List UInt8) (n : Nat) : Value := .agg #[.string (bs v), .int .i64 n]
set_option maxRecDepth 100000 in
set_option maxHeartbeats 1000000 in
theorem cellKey_any (k : List UInt8) (hk : k.length ≤ 140737488355328) (w : World) :
    Calls Tryz.prog 122 #[.string (bs k)] w fun e w' => e = .returned (.string (bs (cKey k))) ∧ w' = w := by
  have he : (⟨#[99]⟩ : ByteArray) ++ bs k = bs (cKey k) := bs_append [99] k
  have hz : (bs k).size = k.length := bs_size k
  go_enter Tryz.func122, Tryz.ntmps122
  go_wp2
  go_ret
  exact ⟨rfl, rfl⟩
set_option maxRecDepth 100000 in
set_option maxHeartbeats 1000000 in
theorem cgetCommand_any (k : List UInt8) (hk : k.length ≤ 140737488355328) (w : World) :
    Calls Tryz.prog 77 #[.string (bs k)] w fun e w' => e = .returned (cdV (getC (cKey k))) ∧ Kept Nil w w' := by
  obtain ⟨W, hW⟩ : ∃ W, W = w.alloc (.cells #[.int .i64 0, .string ⟨#[]⟩, .string ⟨#[]⟩, .int .i64 0] 31) := ⟨_, rfl⟩
  have CK := fun X => cellKey_any k hk X
  go_enter Tryz.func77, Tryz.ntmps77
  go_wp2_with (go_at_call 122; go_must (go_fit (CK _)); rintro _ wq ⟨rfl, rfl⟩)
  exact bodyPost_ret (v := cdV (getC (cKey k))) (by simp [results, Tryz.results77, go_sem, bs, cdV, getC]) rfl ⟨rfl, by repeat (first | exact Kept.refl _ _ | refine Kept.alloc ?_ _)⟩
set_option maxRecDepth 100000 in
set_option maxHeartbeats 1000000 in
theorem unsaid_any (g : Nat) (w : World) :
    Calls Tryz.prog 79 #[.int .i64 g] w fun e w' => e = .returned (ceV (unsaid g)) ∧ Kept Nil w w' := by
  by_cases c : g = 1
  · subst c
    go_enter Tryz.func79, Tryz.ntmps79
    go_wp2
    exact bodyPost_ret (v := ceV (unsaid 1)) (by simp [results, Tryz.results79, go_sem, ceV, unsaid, bs]) rfl ⟨rfl, by repeat (first | exact Kept.refl _ _ | refine Kept.alloc ?_ _)⟩
  · have hc : ((g : Int) == 1) = false := by simp; omega
    have hu : unsaid g = ⟨[], 0, 2, 0, 1⟩ := if_neg c
    rw [hu]
    clear hu c
    go_enter Tryz.func79, Tryz.ntmps79
    go_wp2
    exact bodyPost_ret (v := ceV ⟨[], 0, 2, 0, 1⟩) (by simp [results, Tryz.results79, go_sem, ceV, bs]) rfl ⟨rfl, by repeat (first | exact Kept.refl _ _ | refine Kept.alloc ?_ _)⟩
set_option maxRecDepth 100000 in
set_option maxHeartbeats 1000000 in
theorem arrived_any (c : Ce) (w : World) :
    Calls Tryz.prog 80 #[ceV c] w fun e w' => e = .returned (ceV c.arrived) ∧ Kept Nil w w' := by
  unfold ceV
  go_enter Tryz.func80, Tryz.ntmps80
  go_wp2
  exact bodyPost_ret (v := ceV c.arrived) (by simp [results, Tryz.results80, go_sem, ceV, Ce.arrived, bs]) rfl ⟨rfl, by repeat (first | exact Kept.refl _ _ | refine Kept.alloc ?_ _)⟩
set_option maxRecDepth 100000 in
set_option maxHeartbeats 1000000 in
theorem left_any (c : Ce) (w : World) :
    Calls Tryz.prog 81 #[ceV c] w fun e w' => e = .returned (ceV c.left) ∧ Kept Nil w w' := by
  unfold ceV
  go_enter Tryz.func81, Tryz.ntmps81
  go_wp2
  exact bodyPost_ret (v := ceV c.left) (by simp [results, Tryz.results81, go_sem, ceV, Ce.left, bs]) rfl ⟨rfl, by repeat (first | exact Kept.refl _ _ | refine Kept.alloc ?_ _)⟩
set_option maxRecDepth 100000 in
set_option maxHeartbeats 1000000 in
theorem towards_any (c : Ce) (g : Nat) (hh : c.h ≤ 999999) (w : World) :
    Calls Tryz.prog 158 #[ceV c, .int .i64 g] w fun e w' => e = .returned (ceV (c.towards g)) ∧ Kept Nil w w' := by
  unfold ceV
  go_enter Tryz.func158, Tryz.ntmps158
  go_wp2
  exact bodyPost_ret (v := ceV (c.towards g)) (by simp [results, Tryz.results158, go_sem, ceV, Ce.towards]) rfl ⟨rfl, by repeat (first | exact Kept.refl _ _ | refine Kept.alloc ?_ _)⟩
set_option maxRecDepth 100000 in
set_option maxHeartbeats 1000000 in
theorem isLost_any (r : Rr) (ko : Option Addr) (kc : Nat) (w : World) :
    Calls Tryz.prog 124 #[rrV r ko kc] w fun e w' => e = .returned (.bool (decide (5 < r.kd))) ∧ Kept Nil w w' := by
  unfold rrV
  go_enter Tryz.func124, Tryz.ntmps124
  go_wp2
  go_ret
  exact ⟨rfl, (Kept.refl _ _).alloc _⟩
def fitB (v : List UInt8) (n : Nat) : Bool := decide (v.length ≤ 32) && decide (n ≤ 999999)
set_option maxRecDepth 100000 in
set_option maxHeartbeats 1000000 in
theorem fits_any (v : List UInt8) (n : Nat) (w : World) (hv : v.length ≤ maxLen) :
    Calls Tryz.prog 160 #[ctV v n] w fun e w' => e = .returned (.bool (fitB v n)) ∧ Kept Nil w w' := by
  obtain ⟨x, HX⟩ : ∃ x, Hid (x = fitB v n) := ⟨_, rfl⟩
  rw [← HX.out]
  have hz : (bs v).size = v.length := bs_size v
  unfold maxLen at hv
  unfold ctV
  by_cases c1 : v.length ≤ 32
  · by_cases c2 : n ≤ 999999
    · obtain rfl : x = true := by rw [HX.out]; simp [fitB, c1, c2]
      have d1 : (v.length : Int) ≤ 32 := by omega
      have d2 : (n : Int) ≤ 999999 := by omega
      go_enter Tryz.func160, Tryz.ntmps160
      go_wp2
      go_ret
      exact ⟨rfl, (Kept.refl _ _).alloc _⟩
    · obtain rfl : x = false := by rw [HX.out]; simp [fitB, c2]
      have d1 : (v.length : Int) ≤ 32 := by omega
      have d2 : ¬ (n : Int) ≤ 999999 := by omega
      go_enter Tryz.func160, Tryz.ntmps160
      go_wp2
      go_ret
      exact ⟨rfl, (Kept.refl _ _).alloc _⟩
  · obtain rfl : x = false := by rw [HX.out]; simp [fitB, c1]
    have d1 : ¬ (v.length : Int) ≤ 32 := by omega
    go_enter Tryz.func160, Tryz.ntmps160
    go_wp2
    go_ret
    exact ⟨rfl, (Kept.refl _ _).alloc _⟩
end Go.Proofs.YtflnjlbafchnaaaGreatDoor
