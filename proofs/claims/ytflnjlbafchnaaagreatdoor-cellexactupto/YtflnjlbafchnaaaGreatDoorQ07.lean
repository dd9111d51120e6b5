/-
  Joined: WKv8, WKv9, WKvN, WKv10, WKv11.
-/
import Derived.Test.YtflnjlbafchnaaaGreatDoorQ05
import Derived.Test.YtflnjlbafchnaaaGreatDoorQ03
import Derived.Test.YtflnjlbafchnaaaGreatDoorQ04
import Derived.Deep.DeepCutAuto
import Derived.Test.YtflnjlbafchnaaaGreatDoorQ06
/-
  kv: a pair goes.
-/
namespace Go.Proofs.YtflnjlbafchnaaaGreatDoor
open Go.RowKit

def dropP (n : Int) (i : Nat) (ps : List Pr) : List Pr := if n = 0 then ps else delP i ps
def dropR (n : Int) : Value := if n = 0 then resV 2 [] 0 else resV 1 [] n
set_option maxRecDepth 100000 in
set_option maxHeartbeats 2000000 in
theorem drop_any (w0 : World) (b c i : Nat) (ao : Option Addr) (ps : List Pr) (key v : List UInt8) (n : Int) (w : World) (hb : SpotAt w b key v n ao ps.length c i) (hO : OwnP w0.heap.size w ao c ps) (hK : Kept Nil w0 w) (hwb : w0.heap.size ≤ b) (hl : ps.length ≤ 32) (hi1 : n ≠ 0 → i < ps.length) :
    Calls Tryz.prog 117 #[.pointer (some ⟨b, 0, none⟩)] w fun e w' => e = .returned (dropR n) ∧ ∃ ao' c', SpotAt w' b key v n ao' (dropP n i ps).length c' i ∧ OwnP w0.heap.size w' ao' c' (dropP n i ps) ∧ KK w0 w b ao w' := by
  obtain ⟨W, hW⟩ : ∃ W, W = w.alloc (.cells #[.int .i64 0, .string ⟨#[]⟩, .int .i64 0, .slice none 0 0] 50) := ⟨_, rfl⟩
  have KW : Hid (Kept Nil w W) := by rw [hW]; exact (Kept.refl _ _).alloc _
  have HB : Hid (SpotAt W b key v n ao ps.length c i) := KW.out.block _ _ hb (fun x => x.elim)
  have HO : Hid (OwnP w0.heap.size W ao c ps) := hO.kept KW.out
  have HK : Hid (KK w0 w b ao W) := (KK.start hK).then KW.out
  have HNW : Hid (W.heap[w.heap.size]? = some (.cells #[.int .i64 0, .string ⟨#[]⟩, .int .i64 0, .slice none 0 0] 50 (0, 0))) := by rw [hW]; exact blk_new _ _
  have HPR : Hid (w0.heap.size ≤ w.heap.size ∧ b ≠ w.heap.size ∧ New w w.heap.size) := ⟨hK.size, Nat.ne_of_lt (lt_of_block hb), Nat.le_refl _⟩
  have q0 : W.cell? ⟨b, 0, none⟩ = some (.string (bs key)) := blk_at HB.out 0 rfl
  have q2 : W.cell? ⟨b, 2, none⟩ = some (.int .i64 n) := blk_at HB.out 2 rfl
  have q3 : W.cell? ⟨b, 3, none⟩ = some (.slice ao ps.length c) := blk_at HB.out 3 rfl
  have q4 : W.cell? ⟨b, 4, none⟩ = some (.int .i64 i) := blk_at HB.out 4 rfl
  have r0 : W.cell? ⟨w.heap.size, 0, none⟩ = some (.int .i64 0) := blk_at HNW.out 0 rfl
  have r1 : W.cell? ⟨w.heap.size, 1, none⟩ = some (.string ⟨#[]⟩) := blk_at HNW.out 1 rfl
  have r2 : W.cell? ⟨w.heap.size, 2, none⟩ = some (.int .i64 0) := blk_at HNW.out 2 rfl
  have r3 : W.cell? ⟨w.heap.size, 3, none⟩ = some (.slice none 0 0) := blk_at HNW.out 3 rfl
  have z0 : W.frozen? ⟨w.heap.size, 0, none⟩ = false := blk_free HNW.out 0
  have z1 : W.frozen? ⟨w.heap.size, 1, none⟩ = false := blk_free HNW.out 1
  have z2 : W.frozen? ⟨w.heap.size, 2, none⟩ = false := blk_free HNW.out 2
  have z3 : W.frozen? ⟨w.heap.size, 3, none⟩ = false := blk_free HNW.out 3
  have HB0 : Hid (SpotAt w b key v n ao ps.length c i ∧ OwnP w0.heap.size w ao c ps ∧ KK w0 w b ao w) := ⟨hb, hO, KK.start hK⟩
  have y2 : w.cell? ⟨b, 2, none⟩ = some (.int .i64 n) := blk_at hb 2 rfl
  have hlt := lt_of_block hb
  clear hb hO hK KW
  by_cases h0 : n = 0
  · subst h0
    have HP : Hid (dropP 0 i ps = ps ∧ dropR 0 = resV 2 [] 0) := ⟨by unfold dropP; rw [if_pos rfl], by unfold dropR; rw [if_pos rfl]⟩
    rw [HP.out.1, HP.out.2]
    go_enter Tryz.func117, Tryz.ntmps117
    clear hW
    go_wp2
    exact bodyPost_ret (v := resV 2 [] 0) (by simp [results, Tryz.results117, go_sem, resV, bs]) rfl ⟨rfl, ao, c, blk_past HB0.out.1 _, HB0.out.2.1.kept ((Kept.refl _ _).alloc _), HB0.out.2.2.alloc _⟩
  · have h0i : (n == 0) = false := beq_eq_false_iff_ne.2 h0
    have HI := hi1 h0
    have HP : Hid (dropP n i ps = delP i ps ∧ dropR n = resV 1 [] n) := ⟨by unfold dropP; rw [if_neg h0], by unfold dropR; rw [if_neg h0]⟩
    rw [HP.out.1, HP.out.2]
    have hwr : IntKind.i64.wrap ((i : Int) + 1) = (i : Int) + 1 := by rw [IntKind.wrap_i64]; omega
    have DEL := deleteP_any w0.heap.size c i ao ps W.drew (HO.out.kept (Kept.refl _ _).drew) HI hl
    go_enter Tryz.func117, Tryz.ntmps117
    go_upto_region 3 with fail
    rw [← hW]
    clear y2 hlt HB0
    generalize w.heap.size = pr at *
    clear hW
    go_region_with (go_at_call 150; go_must (go_fit DEL); rintro e w4 ⟨rfl, o4, g4⟩; have HB4 : Hid (SpotAt w4 b key v n ao ps.length c i) := grown_blk g4 HB.out (HO.out.neAt (HO.out.apart HB.out)); have HN4 : Hid (w4.heap[pr]? = some (.cells #[.int .i64 0, .string ⟨#[]⟩, .int .i64 0, .slice none 0 0] 50 (0, 0))) := grown_blk g4 HNW.out (HO.out.neRes HNW.out); have HO4 : Hid (OwnP w0.heap.size w4 ao c (delP i ps)) := o4; have HK4 : Hid (KK w0 w b ao w4) := HK.out.drew.grown g4 (fun k hk => own_row HO.out k hk); have f3 : w4.frozen? ⟨b, 3, none⟩ = false := blk_free HB4.out 3; have c3 : w4.cell? ⟨b, 3, none⟩ = some (.slice ao ps.length c) := blk_at HB4.out 3 rfl; clear o4 g4)
    all_goals
      have HB5 : Hid (SpotAt (w4.setCell ⟨b, 3, none⟩ (.slice ao (ps.length - 1) c)) b key v n ao (ps.length - 1) c i) := blk_set HB4.out 3 _
      have HO5 : Hid (OwnP w0.heap.size (w4.setCell ⟨b, 3, none⟩ (.slice ao (ps.length - 1) c)) ao c (delP i ps)) := HO4.out.setSpot HB4.out _
      have HN5 : Hid ((w4.setCell ⟨b, 3, none⟩ (.slice ao (ps.length - 1) c)).heap[pr]? = some (.cells #[.int .i64 0, .string ⟨#[]⟩, .int .i64 0, .slice none 0 0] 50 (0, 0))) := blk_other HN4.out (a := ⟨b, 3, none⟩) (fun e => HPR.out.2.1 e.symm) _
      have HK5 : Hid (KK w0 w b ao (w4.setCell ⟨b, 3, none⟩ (.slice ao (ps.length - 1) c))) := HK4.out.setSpot hwb _
      generalize w4.setCell ⟨b, 3, none⟩ (.slice ao (ps.length - 1) c) = W5 at *
      clear HB4 HO4 HN4 HK4 f3 c3 DEL HB HO HK HNW q0 q2 q3 q4 r0 r1 r2 r3 z0 z1 z2 z3
      have q2 : W5.cell? ⟨b, 2, none⟩ = some (.int .i64 n) := blk_at HB5.out 2 rfl
      have r0 : W5.cell? ⟨pr, 0, none⟩ = some (.int .i64 0) := blk_at HN5.out 0 rfl
      have r1 : W5.cell? ⟨pr, 1, none⟩ = some (.string ⟨#[]⟩) := blk_at HN5.out 1 rfl
      have r2 : W5.cell? ⟨pr, 2, none⟩ = some (.int .i64 0) := blk_at HN5.out 2 rfl
      have r3 : W5.cell? ⟨pr, 3, none⟩ = some (.slice none 0 0) := blk_at HN5.out 3 rfl
      have z0 : W5.frozen? ⟨pr, 0, none⟩ = false := blk_free HN5.out 0
      have z1 : W5.frozen? ⟨pr, 1, none⟩ = false := blk_free HN5.out 1
      have z2 : W5.frozen? ⟨pr, 2, none⟩ = false := blk_free HN5.out 2
      have z3 : W5.frozen? ⟨pr, 3, none⟩ = false := blk_free HN5.out 3
      obtain ⟨V, hV⟩ : ∃ V, V = (((W5.setCell ⟨pr, 0, none⟩ (.int .i64 1)).setCell ⟨pr, 1, none⟩ (.string ⟨#[]⟩)).setCell ⟨pr, 2, none⟩ (.int .i64 n)).setCell ⟨pr, 3, none⟩ (.slice none 0 0) := ⟨_, rfl⟩
      have HV : Hid (V.heap[pr]? = some (.cells #[.int .i64 1, .string ⟨#[]⟩, .int .i64 n, .slice none 0 0] 50 (0, 0)) ∧ SpotAt V b key v n ao (ps.length - 1) c i ∧ OwnP w0.heap.size V ao c (delP i ps) ∧ KK w0 w b ao V) := by rw [hV]; exact set4_all HN5.out HB5.out HO5.out HK5.out HPR.out.1 HPR.out.2.2 _ _ _ _
      go_wp2
      rw [← hV]
      clear hV r0 r1 r2 r3
      have j0 := blk_at HV.out.1 0 rfl
      have j1 := blk_at HV.out.1 1 rfl
      have j2 := blk_at HV.out.1 2 rfl
      have j3 := blk_at HV.out.1 3 rfl
      exact bodyPost_ret (v := resV 1 [] n) (by simp [results, Tryz.results117, go_sem, j0, j1, j2, j3, resV, bs]) rfl ⟨rfl, ao, c, by rw [delP_len HI]; exact HV.out.2.1, HV.out.2.2.1, HV.out.2.2.2⟩

end Go.Proofs.YtflnjlbafchnaaaGreatDoor

/-
  kv: the keys that begin with a key.
-/
namespace Go.Proofs.YtflnjlbafchnaaaGreatDoor
open Go.RowKit

def prefB (s p : List UInt8) : Bool := decide (s.take p.length = p)
/-- What the closure asks: is the key no longer ahead? -/
def offK (key : List UInt8) (p : Pr) : Bool := !prefB p.k key
end Go.Proofs.YtflnjlbafchnaaaGreatDoor

/-
  The map, plainly: what the document's loops make of sorted pairs.
-/
namespace Go.Proofs.YtflnjlbafchnaaaGreatDoor
open Go.RowKit

/-- The pairs whose keys begin with a key, so many at most (0: all). -/
def listP (key : List UInt8) (most : Int) (L : List Pr) : List Pr := if 0 < most ∧ most < ((L.take (L.findIdx (offK key))).length : Int) then (L.take (L.findIdx (offK key))).take most.toNat else L.take (L.findIdx (offK key))
theorem pref_cons (c a : UInt8) (q k : List UInt8) : prefB (c :: q) (a :: k) = (c == a && prefB q k) := by
  unfold prefB
  simp [Bool.beq_eq_decide_eq]
theorem pref_nil (q : List UInt8) : prefB q [] = true := by simp [prefB]
theorem nil_pref (a : UInt8) (k : List UInt8) : prefB [] (a :: k) = false := by simp [prefB]
theorem pref_less : ∀ (s p : List UInt8), prefB s p = true → lessB s p = false
  | s, [], _ => less_nil_right s
  | [], a :: p, h => by rw [nil_pref] at h; cases h
  | c :: s, a :: p, h => by
    rw [pref_cons] at h
    simp only [Bool.and_eq_true, beq_iff_eq] at h
    obtain ⟨rfl, h⟩ := h
    rw [less_cons, pref_less s p h]
    have : ¬ c < c := by rw [UInt8.lt_iff_toNat_lt]; omega
    simp [this]
theorem off_mono : ∀ (key p q : List UInt8), lessB p key = false → prefB p key = false → lessB p q = true → prefB q key = false
  | [], p, _, _, h, _ => by rw [pref_nil] at h; cases h
  | a :: k, [], _, h, _, _ => by cases h
  | a :: k, b :: p, [], _, _, h => by rw [less_nil_right] at h; cases h
  | a :: k, b :: p, c :: q, h1, h2, h3 => by
    rw [less_cons] at h1 h3
    rw [pref_cons] at h2 ⊢
    simp only [Bool.or_eq_false_iff, decide_eq_false_iff_not] at h1
    simp only [Bool.or_eq_true, decide_eq_true_eq, Bool.and_eq_true, beq_iff_eq] at h3
    by_cases hca : c = a
    · subst hca
      rcases h3 with h3 | ⟨rfl, h3⟩
      · exact absurd h3 h1.1
      · have i1 : lessB p k = false := by simpa using h1.2
        have i2 : prefB p k = false := by simpa using h2
        simp [off_mono k p q i1 i2 h3]
    · simp [hca]
theorem filter_run (key : List UInt8) : ∀ {L : List Pr}, Srt L → (∀ p ∈ L, lessB p.k key = false) → L.filter (fun p => prefB p.k key) = L.take (L.findIdx (offK key))
  | [], _, _ => rfl
  | p :: t, h, hl => by
    obtain ⟨g1, g2⟩ := List.pairwise_cons.1 h
    rw [List.findIdx_cons]
    cases hp : prefB p.k key with
    | true =>
      rw [List.filter_cons_of_pos (by exact hp), show offK key p = false by unfold offK; rw [hp]; rfl]
      simp only [cond_false, List.take_succ_cons]
      rw [filter_run key g2 (fun x hx => hl x (List.mem_cons_of_mem _ hx))]
    | false =>
      rw [List.filter_cons_of_neg (by rw [hp]; simp), show offK key p = true by unfold offK; rw [hp]; rfl]
      simp only [cond_true, List.take_zero]
      rw [List.filter_eq_nil_iff]
      intro q hq
      rw [off_mono key p.k q.k (hl p (by simp)) hp (g1 q hq)]
      simp
theorem filter_all {key : List UInt8} {ps : List Pr} (h : Srt ps) : ps.filter (fun p => prefB p.k key) = (ps.drop (lowP key ps)).take ((ps.drop (lowP key ps)).findIdx (offK key)) := by
  have hd : Srt (ps.drop (lowP key ps)) := h.sublist (List.drop_sublist _ _)
  rw [← filter_run key hd (fun p hp => by
    obtain ⟨j, hj, rfl⟩ := List.getElem_of_mem hp
    rw [List.length_drop] at hj
    rw [List.getElem_drop]
    exact lowP_ge h (by omega) (by omega))]
  conv => lhs; rw [← List.take_append_drop (lowP key ps) ps, List.filter_append]
  have : (ps.take (lowP key ps)).filter (fun p => prefB p.k key) = [] := by
    rw [List.filter_eq_nil_iff]
    intro p hp hx
    obtain ⟨j, hj, rfl⟩ := List.getElem_of_mem hp
    rw [List.length_take] at hj
    rw [List.getElem_take] at hx
    have h1 := lowP_lt (key := key) (ps := ps) (j := j) (by omega) (by omega)
    rw [pref_less _ _ hx] at h1
    cases h1
  rw [this, List.nil_append]
/-- One round of the document's put. -/
def stepP (key : List UInt8) (x : Pr) (s : List Pr × Bool) (p : Pr) : List Pr × Bool :=
  let t := if s.2 = false ∧ lessB p.k key = false then (s.1 ++ [x], true) else s
  if p.k = key then t else (t.1 ++ [p], t.2)
def foldP (key : List UInt8) (x : Pr) (ps : List Pr) : List Pr × Bool := ps.foldl (stepP key x) ([], false)
def outP (key : List UInt8) (x : Pr) (ps : List Pr) : List Pr := if (foldP key x ps).2 = true then (foldP key x ps).1 else (foldP key x ps).1 ++ [x]
theorem foldP_snoc {key : List UInt8} {x : Pr} {ps : List Pr} {k : Nat} (hk : k < ps.length) : foldP key x (ps.take (k + 1)) = stepP key x (foldP key x (ps.take k)) ps[k] := by
  unfold foldP
  rw [List.take_succ_eq_append_getElem hk, List.foldl_append]
  rfl
theorem fold_less (key : List UInt8) (x : Pr) : ∀ (A : List Pr) (o : List Pr), (∀ p ∈ A, lessB p.k key = true) → A.foldl (stepP key x) (o, false) = (o ++ A, false)
  | [], o, _ => by simp
  | p :: t, o, h => by
    have h0 := h p (by simp)
    have hne : p.k ≠ key := fun e => by rw [e, less_irrefl] at h0; cases h0
    rw [List.foldl_cons, show stepP key x (o, false) p = (o ++ [p], false) by unfold stepP; simp [h0, hne], fold_less key x t _ (fun q hq => h q (by simp [hq]))]
    simp
theorem fold_done (key : List UInt8) (x : Pr) : ∀ (A : List Pr) (o : List Pr), (∀ p ∈ A, p.k ≠ key) → A.foldl (stepP key x) (o, true) = (o ++ A, true)
  | [], o, _ => by simp
  | p :: t, o, h => by
    have h0 := h p (by simp)
    rw [List.foldl_cons, show stepP key x (o, true) p = (o ++ [p], true) by unfold stepP; simp [h0], fold_done key x t _ (fun q hq => h q (by simp [hq]))]
    simp
theorem there_getElem {key : List UInt8} {ps : List Pr} (hl : lowP key ps < ps.length) : isThere key ps = decide (ps[lowP key ps].k = key) := by
  unfold isThere
  rw [List.getElem?_eq_getElem hl]
theorem there_end {key : List UInt8} {ps : List Pr} (hl : ¬ lowP key ps < ps.length) : isThere key ps = false := by
  unfold isThere
  rw [List.getElem?_eq_none (by omega)]
theorem ne_past {key : List UInt8} {ps : List Pr} (h : Srt ps) {j : Nat} (hj : j < ps.length) (hl : lowP key ps < j) : ps[j].k ≠ key := fun e => by
  have h1 := List.pairwise_iff_getElem.1 h (lowP key ps) j (by omega) hj hl
  rw [e, lowP_ge h (by omega) (Nat.le_refl _)] at h1
  cases h1
theorem ne_before {key : List UInt8} {ps : List Pr} {j : Nat} (hj : j < ps.length) (hl : j < lowP key ps) : ps[j].k ≠ key := fun e => by
  have h1 := lowP_lt hj hl
  rw [e, less_irrefl] at h1
  cases h1
theorem out_is {key : List UInt8} {x : Pr} {ps : List Pr} (h : Srt ps) : outP key x ps = if isThere key ps = true then ps.set (lowP key ps) x else insP (lowP key ps) x ps := by
  have hf : foldP key x ps = (ps.drop (lowP key ps)).foldl (stepP key x) (ps.take (lowP key ps), false) := by
    unfold foldP
    conv => lhs; rw [← List.take_append_drop (lowP key ps) ps, List.foldl_append]
    rw [fold_less key x (ps.take (lowP key ps)) [] (fun p hp => by
      obtain ⟨j, hj, rfl⟩ := List.getElem_of_mem hp
      rw [List.length_take] at hj
      rw [List.getElem_take]
      exact lowP_lt (by omega) (by omega)), List.nil_append]
  by_cases hl : lowP key ps < ps.length
  · have hr : ∀ p ∈ ps.drop (lowP key ps + 1), p.k ≠ key := fun p hp => by
      obtain ⟨j, hj, rfl⟩ := List.getElem_of_mem hp
      rw [List.length_drop] at hj
      rw [List.getElem_drop]
      exact ne_past h (by omega) (by omega)
    rw [List.drop_eq_getElem_cons hl, List.foldl_cons] at hf
    have h0 := lowP_ge h hl (Nat.le_refl _)
    by_cases he : ps[lowP key ps].k = key
    · rw [there_getElem hl, if_pos (by simp [he])]
      have hs : stepP key x (ps.take (lowP key ps), false) ps[lowP key ps] = (ps.take (lowP key ps) ++ [x], true) := by unfold stepP; simp [he, less_irrefl]
      rw [hs, fold_done key x _ _ hr] at hf
      unfold outP
      rw [hf, if_pos rfl, List.set_eq_take_append_cons_drop, if_pos hl]
      simp
    · rw [there_getElem hl, if_neg (by simp [he])]
      have hs : stepP key x (ps.take (lowP key ps), false) ps[lowP key ps] = (ps.take (lowP key ps) ++ [x] ++ [ps[lowP key ps]], true) := by unfold stepP; simp [h0, he]
      rw [hs, fold_done key x _ _ hr] at hf
      unfold outP insP
      rw [hf, if_pos rfl]
      conv => rhs; rw [List.drop_eq_getElem_cons hl]
      simp
  · rw [there_end hl, if_neg (by simp)]
    rw [List.drop_eq_nil_of_le (by omega), List.foldl_nil] at hf
    unfold outP insP
    rw [hf, if_neg (by simp), List.drop_eq_nil_of_le (by omega)]
/-- The number of a key's pair; -1: there is none. -/
def getP (key : List UInt8) (ps : List Pr) : Int := if isThere key ps = true then (lowP key ps : Int) else -1
theorem getP_hit {key : List UInt8} {ps : List Pr} (h : Srt ps) {j : Nat} (hj : j < ps.length) (he : ps[j].k = key) : getP key ps = j := by
  have h1 : lowP key ps = j := by
    by_cases a : lowP key ps < j
    · exact absurd he (ne_past h hj a)
    · by_cases b : j < lowP key ps
      · exact absurd he (ne_before hj b)
      · omega
  unfold getP
  have h2 : ps[lowP key ps]'(by omega) = ps[j] := by simp only [h1]
  rw [there_getElem (by omega), if_pos (by rw [h2]; simp [he]), h1]
theorem getP_miss {key : List UInt8} {ps : List Pr} (hn : ∀ j, (hj : j < ps.length) → ps[j].k ≠ key) : getP key ps = -1 := by
  unfold getP
  rw [if_neg]
  by_cases hl : lowP key ps < ps.length
  · rw [there_getElem hl]
    simpa using hn _ hl
  · rw [there_end hl]
    simp
/-- One round of the document's list. -/
def stepL (key : List UInt8) (most : Int) (o : List (List UInt8)) (p : Pr) : List (List UInt8) := if prefB p.k key = true ∧ (most = 0 ∨ (o.length : Int) < most) then o ++ [p.k] else o
def foldL (key : List UInt8) (most : Int) (ps : List Pr) : List (List UInt8) := ps.foldl (stepL key most) []
theorem foldL_snoc {key : List UInt8} {most : Int} {ps : List Pr} {k : Nat} (hk : k < ps.length) : foldL key most (ps.take (k + 1)) = stepL key most (foldL key most (ps.take k)) ps[k] := by
  unfold foldL
  rw [List.take_succ_eq_append_getElem hk, List.foldl_append]
  rfl
def cutL (most : Int) (L : List Pr) : List Pr := if 0 < most ∧ most < (L.length : Int) then L.take most.toNat else L
theorem foldL_go (key : List UInt8) (most : Int) (hm : 0 ≤ most) : ∀ (ps : List Pr) (o : List Pr), ps.foldl (stepL key most) ((cutL most o).map Pr.k) = (cutL most (o ++ ps.filter (fun p => prefB p.k key))).map Pr.k
  | [], o => by simp
  | p :: t, o => by
    rw [List.foldl_cons]
    cases hp : prefB p.k key with
    | false =>
      rw [List.filter_cons_of_neg (by rw [hp]; simp), show stepL key most ((cutL most o).map Pr.k) p = (cutL most o).map Pr.k by unfold stepL; simp [hp]]
      exact foldL_go key most hm t o
    | true =>
      rw [List.filter_cons_of_pos (by exact hp)]
      have e : stepL key most ((cutL most o).map Pr.k) p = (cutL most (o ++ [p])).map Pr.k := by
        unfold stepL
        rw [List.length_map]
        by_cases h0 : most = 0
        · subst h0
          simp [cutL, hp]
        · by_cases hlt : (o.length : Int) < most
          · have e1 : cutL most o = o := by unfold cutL; rw [if_neg (by omega)]
            have e2 : cutL most (o ++ [p]) = o ++ [p] := by unfold cutL; rw [if_neg (by simp; omega)]
            rw [e1, e2, if_pos ⟨hp, Or.inr hlt⟩]
            simp
          · have e1 : cutL most o = o.take most.toNat := by
              unfold cutL
              split
              · rfl
              · rw [List.take_of_length_le (by omega)]
            have e2 : cutL most (o ++ [p]) = o.take most.toNat := by
              unfold cutL
              rw [if_pos (by simp; omega), List.take_append_of_le_length (by omega)]
            rw [e1, e2, if_neg]
            rw [List.length_take]
            omega
      rw [e, foldL_go key most hm t (o ++ [p])]
      simp
theorem foldL_is {key : List UInt8} {most : Int} {ps : List Pr} (h : Srt ps) (hm : 0 ≤ most) : foldL key most ps = (listP key most (ps.drop (lowP key ps))).map Pr.k := by
  have g := foldL_go key most hm ps []
  rw [show (cutL most ([] : List Pr)).map Pr.k = [] by unfold cutL; split <;> simp, List.nil_append, filter_all h] at g
  unfold foldL
  rw [g]
  rfl

end Go.Proofs.YtflnjlbafchnaaaGreatDoor

/-
  kv: list.
-/
namespace Go.Proofs.YtflnjlbafchnaaaGreatDoor
open Go.RowKit

def kyCells (ns : List (List UInt8)) : List Value := ns.map fun n => Value.string (bs n)
theorem kyCells_snoc (ns : List (List UInt8)) (n : List UInt8) : kyCells (ns ++ [n]) = kyCells ns ++ [.string (bs n)] := by simp [kyCells]
/-- Texts of one's own. -/
def OwnK (B : Nat) (w : World) (ao : Option Addr) (c : Nat) (ns : List (List UInt8)) : Prop := w.ownsRow B 9 1 (.slice ao ns.length c) ns.length (kyCells ns)
theorem OwnK.kept {B c : Nat} {w w' : World} {ao : Option Addr} {ns : List (List UInt8)} (h : OwnK B w ao c ns) (hk : Kept Nil w w') : OwnK B w' ao c ns := own_kept h hk (fun _ _ _ x => x.elim)
theorem Tryz.infoSt : (Tryz.prog.info? 9).map (fun i => (i.zero, i.size, i.bytes)) = some (some (.string ⟨#[]⟩), 1, 16) := by kernel_rfl
theorem src_ky {w : World} (z : List UInt8) : Src Tryz.prog 1 48 (.slice (some ⟨w.heap.size, 0, none⟩) 1 1) 1 [.string (bs z)] (w.alloc (.cells #[.string (bs z)] 9)) := by
  refine Src.ofSlice _ Tryz.underlying48 _ 1 1 _ rfl ?_ ?_
  · intro j u hj
    match j, hj with
    | 0, hj =>
      simp at hj
      subst hj
      simp [Addr.add]
  · intro u hu
    simp at hu
    subst hu
    rfl
end Go.Proofs.YtflnjlbafchnaaaGreatDoor

/-
  kv: swap and do.
-/
namespace Go.Proofs.YtflnjlbafchnaaaGreatDoor
open Go.RowKit

/-- A result. -/
structure Rr where
  kd : Int
  v : List UInt8
  n : Int
  ks : List (List UInt8)
def rrV (r : Rr) (ko : Option Addr) (kc : Nat) : Value := .agg #[.int .i64 r.kd, .string (bs r.v), .int .i64 r.n, .slice ko r.ks.length kc]
def putRr (x : List UInt8) (n : Int) (len : Nat) : Rr := if roomB len n x = false then ⟨4, [], 0, []⟩ else ⟨1, [], n + 1, []⟩
def tellRr (kd : Int) (v : List UInt8) (n : Int) : Rr := if n = 0 then ⟨2, [], 0, []⟩ else ⟨kd, v, n, []⟩
def dropRr (n : Int) : Rr := if n = 0 then ⟨2, [], 0, []⟩ else ⟨1, [], n, []⟩
def swapP (key val : List UInt8) (m n : Int) (i : Nat) (ps : List Pr) : List Pr := if n = m then putP key val n i ps else ps
def swapRr (val v : List UInt8) (m n : Int) (len : Nat) : Rr := if n = m then putRr val n len else tellRr 3 v n
theorem putR_is (x : List UInt8) (n : Int) (len : Nat) : putR x n len = rrV (putRr x n len) none 0 ∧ (putRr x n len).ks = [] := by unfold putR putRr; split <;> exact ⟨rfl, rfl⟩
theorem tellR_is (kd : Int) (v : List UInt8) (n : Int) : (if n = 0 then resV 2 [] 0 else resV kd v n) = rrV (tellRr kd v n) none 0 ∧ (tellRr kd v n).ks = [] := by unfold tellRr; split <;> exact ⟨rfl, rfl⟩
theorem dropR_is (n : Int) : dropR n = rrV (dropRr n) none 0 ∧ (dropRr n).ks = [] := by unfold dropR dropRr; split <;> exact ⟨rfl, rfl⟩
theorem OwnK.nil (B : Nat) (w : World) : OwnK B w none 0 [] := World.ownsRow_nil _ _ _ _
/-- What a command makes of the pairs. -/
def doP (kd : Int) (key val : List UInt8) (m : Int) (v : List UInt8) (n : Int) (i : Nat) (ps : List Pr) : List Pr := if kd = 1 then putP key val n i ps else if kd = 2 then ps else if kd = 3 then dropP n i ps else if kd = 4 then swapP key val m n i ps else if kd = 5 then putP key (v ++ val) n i ps else ps
def doR (kd : Int) (key val : List UInt8) (m : Int) (v : List UInt8) (n : Int) (i : Nat) (ps : List Pr) : Rr := if kd = 1 then putRr val n ps.length else if kd = 2 then tellRr 1 v n else if kd = 3 then dropRr n else if kd = 4 then swapRr val v m n ps.length else if kd = 5 then putRr (v ++ val) n ps.length else ⟨1, [], 0, (listP key m (ps.drop i)).map Pr.k⟩
end Go.Proofs.YtflnjlbafchnaaaGreatDoor
