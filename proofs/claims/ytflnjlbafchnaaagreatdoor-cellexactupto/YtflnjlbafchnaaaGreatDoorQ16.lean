/-
  Joined: WCe5, WCe6, WCd1, WTxS.
-/
import Derived.Test.YtflnjlbafchnaaaGreatDoorQ14
import Derived.Test.YtflnjlbafchnaaaGreatDoorQ15
import Derived.Test.YtflnjlbafchnaaaGreatDoorQ12
import Derived.Test.YtflnjlbafchnaaaGreatDoorQ09
/-
  Cells: the small functions of the program: tail, text, unsaid, arrived, left, towards, the keys and commands, fits, isLost.
-/
namespace Go.Proofs.YtflnjlbafchnaaaGreatDoor
open Go.RowKit

def ctV (v : List UInt8) (n : Nat) : Value := .agg #[.string (bs v), .int .i64 n]
set_option maxRecDepth 100000 in
set_option maxHeartbeats 1000000 in
theorem cellKey_any (k : List UInt8) (hk : k.length ≤ 140737488355328) (w : World) :
    Calls Tryz.prog 122 #[.string (bs k)] w fun e w' => e = .returned (.string (bs (cKey k))) ∧ w' = w := by
  have he : (⟨#[99]⟩ : ByteArray) ++ bs k = bs (cKey k) := bs_append [99] k
  have hz : (bs k).size = k.length := bs_size k
  go_enter Tryz.func122, Tryz.ntmps122
  go_wp2
  go_ret
  exact ⟨rfl, rfl⟩
set_option maxRecDepth 100000 in
set_option maxHeartbeats 1000000 in
theorem cgetCommand_any (k : List UInt8) (hk : k.length ≤ 140737488355328) (w : World) :
    Calls Tryz.prog 77 #[.string (bs k)] w fun e w' => e = .returned (cdV (getC (cKey k))) ∧ Kept Nil w w' := by
  obtain ⟨W, hW⟩ : ∃ W, W = w.alloc (.cells #[.int .i64 0, .string ⟨#[]⟩, .string ⟨#[]⟩, .int .i64 0] 31) := ⟨_, rfl⟩
  have CK := fun X => cellKey_any k hk X
  go_enter Tryz.func77, Tryz.ntmps77
  go_wp2_with (go_at_call 122; go_must (go_fit (CK _)); rintro _ wq ⟨rfl, rfl⟩)
  exact bodyPost_ret (v := cdV (getC (cKey k))) (by simp [results, Tryz.results77, go_sem, bs, cdV, getC]) rfl ⟨rfl, by repeat (first | exact Kept.refl _ _ | refine Kept.alloc ?_ _)⟩
set_option maxRecDepth 100000 in
set_option maxHeartbeats 1000000 in
theorem unsaid_any (g : Nat) (w : World) :
    Calls Tryz.prog 79 #[.int .i64 g] w fun e w' => e = .returned (ceV (unsaid g)) ∧ Kept Nil w w' := by
  by_cases c : g = 1
  · subst c
    go_enter Tryz.func79, Tryz.ntmps79
    go_wp2
    exact bodyPost_ret (v := ceV (unsaid 1)) (by simp [results, Tryz.results79, go_sem, ceV, unsaid, bs]) rfl ⟨rfl, by repeat (first | exact Kept.refl _ _ | refine Kept.alloc ?_ _)⟩
  · have hc : ((g : Int) == 1) = false := by simp; omega
    have hu : unsaid g = ⟨[], 0, 2, 0, 1⟩ := if_neg c
    rw [hu]
    clear hu c
    go_enter Tryz.func79, Tryz.ntmps79
    go_wp2
    exact bodyPost_ret (v := ceV ⟨[], 0, 2, 0, 1⟩) (by simp [results, Tryz.results79, go_sem, ceV, bs]) rfl ⟨rfl, by repeat (first | exact Kept.refl _ _ | refine Kept.alloc ?_ _)⟩
set_option maxRecDepth 100000 in
set_option maxHeartbeats 1000000 in
theorem arrived_any (c : Ce) (w : World) :
    Calls Tryz.prog 80 #[ceV c] w fun e w' => e = .returned (ceV c.arrived) ∧ Kept Nil w w' := by
  unfold ceV
  go_enter Tryz.func80, Tryz.ntmps80
  go_wp2
  exact bodyPost_ret (v := ceV c.arrived) (by simp [results, Tryz.results80, go_sem, ceV, Ce.arrived, bs]) rfl ⟨rfl, by repeat (first | exact Kept.refl _ _ | refine Kept.alloc ?_ _)⟩
set_option maxRecDepth 100000 in
set_option maxHeartbeats 1000000 in
theorem left_any (c : Ce) (w : World) :
    Calls Tryz.prog 81 #[ceV c] w fun e w' => e = .returned (ceV c.left) ∧ Kept Nil w w' := by
  unfold ceV
  go_enter Tryz.func81, Tryz.ntmps81
  go_wp2
  exact bodyPost_ret (v := ceV c.left) (by simp [results, Tryz.results81, go_sem, ceV, Ce.left, bs]) rfl ⟨rfl, by repeat (first | exact Kept.refl _ _ | refine Kept.alloc ?_ _)⟩
set_option maxRecDepth 100000 in
set_option maxHeartbeats 1000000 in
theorem towards_any (c : Ce) (g : Nat) (hh : c.h ≤ 999999) (w : World) :
    Calls Tryz.prog 158 #[ceV c, .int .i64 g] w fun e w' => e = .returned (ceV (c.towards g)) ∧ Kept Nil w w' := by
  unfold ceV
  go_enter Tryz.func158, Tryz.ntmps158
  go_wp2
  exact bodyPost_ret (v := ceV (c.towards g)) (by simp [results, Tryz.results158, go_sem, ceV, Ce.towards]) rfl ⟨rfl, by repeat (first | exact Kept.refl _ _ | refine Kept.alloc ?_ _)⟩
set_option maxRecDepth 100000 in
set_option maxHeartbeats 1000000 in
theorem isLost_any (r : Rr) (ko : Option Addr) (kc : Nat) (w : World) :
    Calls Tryz.prog 124 #[rrV r ko kc] w fun e w' => e = .returned (.bool (decide (5 < r.kd))) ∧ Kept Nil w w' := by
  unfold rrV
  go_enter Tryz.func124, Tryz.ntmps124
  go_wp2
  go_ret
  exact ⟨rfl, (Kept.refl _ _).alloc _⟩
def fitB (v : List UInt8) (n : Nat) : Bool := decide (v.length ≤ 32) && decide (n ≤ 999999)
set_option maxRecDepth 100000 in
set_option maxHeartbeats 1000000 in
theorem fits_any (v : List UInt8) (n : Nat) (w : World) (hv : v.length ≤ maxLen) :
    Calls Tryz.prog 160 #[ctV v n] w fun e w' => e = .returned (.bool (fitB v n)) ∧ Kept Nil w w' := by
  obtain ⟨x, HX⟩ : ∃ x, Hid (x = fitB v n) := ⟨_, rfl⟩
  rw [← HX.out]
  have hz : (bs v).size = v.length := bs_size v
  unfold maxLen at hv
  unfold ctV
  by_cases c1 : v.length ≤ 32
  · by_cases c2 : n ≤ 999999
    · obtain rfl : x = true := by rw [HX.out]; simp [fitB, c1, c2]
      have d1 : (v.length : Int) ≤ 32 := by omega
      have d2 : (n : Int) ≤ 999999 := by omega
      go_enter Tryz.func160, Tryz.ntmps160
      go_wp2
      go_ret
      exact ⟨rfl, (Kept.refl _ _).alloc _⟩
    · obtain rfl : x = false := by rw [HX.out]; simp [fitB, c2]
      have d1 : (v.length : Int) ≤ 32 := by omega
      have d2 : ¬ (n : Int) ≤ 999999 := by omega
      go_enter Tryz.func160, Tryz.ntmps160
      go_wp2
      go_ret
      exact ⟨rfl, (Kept.refl _ _).alloc _⟩
  · obtain rfl : x = false := by rw [HX.out]; simp [fitB, c1]
    have d1 : ¬ (v.length : Int) ≤ 32 := by omega
    go_enter Tryz.func160, Tryz.ntmps160
    go_wp2
    go_ret
    exact ⟨rfl, (Kept.refl _ _).alloc _⟩
end Go.Proofs.YtflnjlbafchnaaaGreatDoor

/-
  Cells: pair, tail, text (the program).
-/
namespace Go.Proofs.YtflnjlbafchnaaaGreatDoor
open Go.RowKit

def prV (k : List UInt8) (v : List UInt8) (n : Nat) : Value := if v = [] ∧ n = 0 then .agg #[.string ⟨#[]⟩, .string ⟨#[]⟩, .int .i64 0] else .agg #[.string (bs k), .string (bs v), .int .i64 n]
theorem ct_cases (v : List UInt8) (n : Nat) : (v = [] ∧ n = 0) ∨ (¬ (v = [] ∧ n = 0) ∧ ((bs v).toList = [] ∧ ¬ n = 0 ∨ ¬ (bs v).toList = [])) := by
  rw [bs_toList]
  by_cases h1 : v = []
  · by_cases h2 : n = 0
    · exact .inl ⟨h1, h2⟩
    · exact .inr ⟨fun e => h2 e.2, .inl ⟨h1, h2⟩⟩
  · exact .inr ⟨fun e => h1 e.1, .inr h1⟩
set_option maxRecDepth 100000 in
set_option maxHeartbeats 1000000 in
theorem pair_any (v : List UInt8) (n : Nat) (k : List UInt8) (w : World) :
    Calls Tryz.prog 99 #[ctV v n, .string (bs k)] w fun e w' => e = .returned (.tuple #[prV k v n, .bool (!decide (v = [] ∧ n = 0))]) ∧ Kept Nil w w' := by
  obtain ⟨b, HB⟩ : ∃ b, Hid (b = !decide (v = [] ∧ n = 0)) := ⟨_, rfl⟩
  obtain ⟨x, HX⟩ : ∃ x, Hid (x = prV k v n) := ⟨_, rfl⟩
  rw [← HB.out, ← HX.out]
  unfold ctV
  rcases ct_cases v n with ⟨hv, hn⟩ | ⟨hc, ⟨h1, h2⟩ | h1⟩
  · have HE : Hid (b = false ∧ x = .agg #[.string ⟨#[]⟩, .string ⟨#[]⟩, .int .i64 0]) := ⟨by rw [HB.out, decide_eq_true ⟨hv, hn⟩]; rfl, by rw [HX.out]; exact if_pos ⟨hv, hn⟩⟩
    subst hv hn
    have ht : (bs []).toList = [] := bs_toList []
    go_enter Tryz.func99, Tryz.ntmps99
    go_wp2
    exact bodyPost_ret (v := .tuple #[.agg #[.string ⟨#[]⟩, .string ⟨#[]⟩, .int .i64 0], .bool false]) (by simp [results, Tryz.results99, go_sem]) rfl ⟨by rw [HE.out.1, HE.out.2], by repeat (first | exact Kept.refl _ _ | refine Kept.alloc ?_ _)⟩
  · have HE : Hid (b = true ∧ x = .agg #[.string (bs k), .string (bs v), .int .i64 n]) := ⟨by rw [HB.out, decide_eq_false hc]; rfl, by rw [HX.out]; exact if_neg hc⟩
    clear hc
    go_enter Tryz.func99, Tryz.ntmps99
    go_wp2
    exact bodyPost_ret (v := .tuple #[.agg #[.string (bs k), .string (bs v), .int .i64 n], .bool true]) (by simp [results, Tryz.results99, go_sem]) rfl ⟨by rw [HE.out.1, HE.out.2], by repeat (first | exact Kept.refl _ _ | refine Kept.alloc ?_ _)⟩
  · have HE : Hid (b = true ∧ x = .agg #[.string (bs k), .string (bs v), .int .i64 n]) := ⟨by rw [HB.out, decide_eq_false hc]; rfl, by rw [HX.out]; exact if_neg hc⟩
    clear hc
    go_enter Tryz.func99, Tryz.ntmps99
    go_wp2
    exact bodyPost_ret (v := .tuple #[.agg #[.string (bs k), .string (bs v), .int .i64 n], .bool true]) (by simp [results, Tryz.results99, go_sem]) rfl ⟨by rw [HE.out.1, HE.out.2], by repeat (first | exact Kept.refl _ _ | refine Kept.alloc ?_ _)⟩
theorem catS : ∀ (p q r : ByteArray), p ++ q = r → p.size ≤ 1000 → q.size ≤ 1000 → ∀ X, (Op.stringOp .add p q).run Tryz.prog X = .ok (.string r) X := fun p q r e h1 h2 X => by
  unfold Op.stringOp
  simp only
  rw [if_neg (by have e : IntKind.i64.max = 9223372036854775807 := rfl; omega), e]
  rfl
set_option maxRecDepth 100000 in
set_option maxHeartbeats 2000000 in
theorem tail_any (v : List UInt8) (n : Nat) (w : World) (hv : v.length ≤ 32) (hn : n ≤ 999999) (hL : LD w) :
    Calls Tryz.prog 156 #[ctV v n] w fun e w' => e = .returned (.string (bs (ceTail v n))) ∧ Kept Nil w w' := by
  obtain ⟨y, HY⟩ : ∃ y, Hid (y = ceTail v n) := ⟨_, rfl⟩
  rw [← HY.out]
  unfold ctV
  rcases ct_cases v n with ⟨hv, hn⟩ | ⟨hc, hh⟩
  · obtain rfl : y = [] := by rw [HY.out]; exact if_pos ⟨hv, hn⟩
    subst hv hn
    have ht : (bs []).toList = [] := bs_toList []
    go_enter Tryz.func156, Tryz.ntmps156
    go_wp2
    go_ret
    exact ⟨rfl, (Kept.refl _ _).alloc _⟩
  · have hy : y = 32 :: (Lib.decDigits n ++ 32 :: 61 :: v) := by rw [HY.out]; exact if_neg hc
    obtain ⟨W, hW⟩ : ∃ W, W = w.alloc (.cells #[.string (bs v), .int .i64 n] 129) := ⟨_, rfl⟩
    obtain ⟨A, HAe⟩ : ∃ A, Hid (A = w.heap.size) := ⟨_, rfl⟩
    have KW : Hid (Kept Nil w W) := by rw [hW]; exact (Kept.refl _ _).alloc _
    have HAW : Hid (W.heap[A]? = some (.cells #[.string (bs v), .int .i64 n] 129 (0, 0))) := by rw [hW, HAe.out]; exact blk_new _ _
    have HLW : Hid (LD W) := hL.kept KW.out
    have SS : ∀ X, Kept Nil W X → X.cell? ⟨A, 0, none⟩ = some (.string (bs v)) ∧ X.cell? ⟨A, 1, none⟩ = some (.int .i64 n) := fun X kX =>
      ⟨blk_at (kX.block _ _ HAW.out (fun x => x.elim)) 0 rfl, blk_at (kX.block _ _ HAW.out (fun x => x.elim)) 1 rfl⟩
    have I1 : ∀ X, Kept Nil W X → Calls Tryz.prog 105 #[.int .i64 n] X fun e w' => e = .returned (.string (bs (Lib.decDigits n))) ∧ Kept Nil X w' := fun X kX => by
      have := itoa_any n (by omega) (by omega) X (HLW.out.kept kX)
      rw [itoa_nat] at this
      exact this
    have g1 : (⟨#[32]⟩ : ByteArray) ++ bs (Lib.decDigits n) = bs (32 :: Lib.decDigits n) := bs_append [32] _
    have g2 : bs (32 :: Lib.decDigits n) ++ (⟨#[32, 61]⟩ : ByteArray) = bs (32 :: (Lib.decDigits n ++ [32, 61])) := by
      show _ ++ bs [32, 61] = _
      rw [bs_append]
      simp
    have g3 : bs (32 :: (Lib.decDigits n ++ [32, 61])) ++ bs v = bs y := by rw [bs_append, hy]; simp
    have z1 : (bs (Lib.decDigits n)).size ≤ 6 := by rw [bs_size]; exact digits_len6 hn
    have z2 : (bs v).size ≤ 32 := by rw [bs_size]; exact hv
    have z3 : (bs (32 :: Lib.decDigits n)).size ≤ 7 := by rw [bs_size] at z1 ⊢; simp; omega
    have z4 : (bs (32 :: (Lib.decDigits n ++ [32, 61]))).size ≤ 9 := by rw [bs_size] at z1 ⊢; simp; omega
    have z5 : (⟨#[32]⟩ : ByteArray).size = 1 := rfl
    have z6 : (⟨#[32, 61]⟩ : ByteArray).size = 2 := rfl
    have t1 := catS _ _ _ g1 (by rw [z5]; omega) (by omega)
    have t2 := catS _ _ _ g2 (by omega) (by rw [z6]; omega)
    have t3 := catS _ _ _ g3 (by omega) (by omega)
    have m0 : IntKind.i64.max = 9223372036854775807 := rfl
    have s0 := SS W (Kept.refl _ _)
    have hlt : A < W.heap.size := lt_of_block HAW.out
    clear hc hy
    rcases hh with ⟨h1, h2⟩ | h1
    · go_enter Tryz.func156, Tryz.ntmps156
      go_upto_region 3 with fail
      rw [← hW, ← HAe.out]
      clear hW
      go_region_held3 (fun w' => w'.cell? ⟨A, 0, none⟩ = some (.string (bs v)) ∧ w'.cell? ⟨A, 1, none⟩ = some (.int .i64 n)) (first | assumption | go_keep) (first | (go_at_call 105; go_fit (I1 W.drew ((Kept.refl _ _).drew)); rintro e wa ⟨rfl, ka⟩; have Ka : Hid (Kept Nil W wa) := ((Kept.refl _ _).drew).trans ka; have sa := SS wa Ka.out))
      go_wp2
      go_ret
      exact ⟨rfl, KW.out.trans Ka.out⟩
    · go_enter Tryz.func156, Tryz.ntmps156
      go_upto_region 3 with fail
      rw [← hW, ← HAe.out]
      clear hW
      go_region_held3 (fun w' => w'.cell? ⟨A, 0, none⟩ = some (.string (bs v)) ∧ w'.cell? ⟨A, 1, none⟩ = some (.int .i64 n)) (first | assumption | go_keep) (first | (go_at_call 105; go_fit (I1 W.drew ((Kept.refl _ _).drew)); rintro e wa ⟨rfl, ka⟩; have Ka : Hid (Kept Nil W wa) := ((Kept.refl _ _).drew).trans ka; have sa := SS wa Ka.out))
      go_wp2
      go_ret
      exact ⟨rfl, KW.out.trans Ka.out⟩
end Go.Proofs.YtflnjlbafchnaaaGreatDoor

/-
  Cells, plainly: a text read word by word (the document's way) says the same.
-/
namespace Go.Proofs.YtflnjlbafchnaaaGreatDoor
open Go.RowKit Go.Lib

def tw (l : List UInt8) : List UInt8 := l.takeWhile (· ≠ 32)
def dw (l : List UInt8) : List UInt8 := l.dropWhile (· ≠ 32)
def Blk (r : List UInt8) : Prop := r = [] ∨ ∃ t, r = 32 :: t
theorem tw_dw (l : List UInt8) : tw l ++ dw l = l := List.takeWhile_append_dropWhile
theorem dw_blk : ∀ (l : List UInt8), Blk (dw l)
  | [] => .inl rfl
  | c :: t => by
    unfold dw
    by_cases h : c = 32
    · rw [h]; exact .inr ⟨t, by simp⟩
    · rw [List.dropWhile_cons, if_pos (by simp [h])]
      exact dw_blk t
theorem tw_app {a r : List UInt8} (h : ∀ c ∈ a, c ≠ 32) (hr : Blk r) : tw (a ++ r) = a ∧ dw (a ++ r) = r := by
  induction a with
  | nil =>
    rcases hr with rfl | ⟨t, rfl⟩
    · exact ⟨rfl, rfl⟩
    · exact ⟨by simp [tw], by simp [dw]⟩
  | cons c a ih =>
    obtain ⟨h1, h2⟩ := ih (fun x hx => h x (List.mem_cons_of_mem _ hx))
    have hc := h c (List.mem_cons_self ..)
    refine ⟨?_, ?_⟩
    · show (c :: (a ++ r)).takeWhile _ = _
      rw [List.takeWhile_cons, if_pos (by simp [hc])]
      exact congrArg (c :: ·) h1
    · show (c :: (a ++ r)).dropWhile _ = _
      rw [List.dropWhile_cons, if_pos (by simp [hc])]
      exact h2
/-- A blank, and a number; what is behind it. -/
def nmD (m : Nat) : List UInt8 → Option Nat × List UInt8
  | [] => (none, [])
  | c :: t => if c = 32 then (amt m (tw t), dw t) else (none, c :: t)
theorem nmD_of {m v : Nat} {r : List UInt8} (h : v ≤ m) (hr : Blk r) : nmD m (32 :: (decDigits v ++ r)) = (some v, r) := by
  obtain ⟨h1, h2⟩ := tw_app (digits_nb v) hr
  show (if (32 : UInt8) = 32 then (amt m (tw (decDigits v ++ r)), dw (decDigits v ++ r)) else (none, 32 :: (decDigits v ++ r))) = _
  rw [if_pos rfl, h1, h2, amt_digits h]
theorem nmD_some {m v : Nat} {r r' : List UInt8} (h : nmD m r = (some v, r')) : v ≤ m ∧ r = 32 :: (decDigits v ++ r') ∧ Blk r' := by
  cases r with
  | nil => simp [nmD] at h
  | cons c t =>
    have h : (if c = 32 then (amt m (tw t), dw t) else (none, c :: t)) = (some v, r') := h
    by_cases hc : c = 32
    · rw [if_pos hc] at h
      simp only [Prod.mk.injEq] at h
      obtain ⟨h1, h2⟩ := amt_some h.1
      refine ⟨h1, ?_, by rw [← h.2]; exact dw_blk t⟩
      rw [hc, ← h2, ← h.2, tw_dw]
    · rw [if_neg hc] at h
      simp at h
def tlD (s h g : Nat) (r : List UInt8) : Option Ce :=
  if r = [] then some ⟨[], 0, s, h, g⟩
  else match (nmD 999999 r).1 with
    | none => none
    | some n => if n < 1 ∨ s = 2 ∨ (nmD 999999 r).2.take 2 ≠ [32, 61] ∨ 34 < (nmD 999999 r).2.length then none else some ⟨(nmD 999999 r).2.drop 2, n, s, h, g⟩
def hdD (s : Nat) (r : List UInt8) : Option Ce :=
  match (nmD 999999 r).1 with
  | none => none
  | some h => if s = 0 then tlD s h 0 (nmD 999999 r).2 else match (nmD 4 (nmD 999999 r).2).1 with
    | none => none
    | some g => if g < 1 then none else tlD s h g (nmD 4 (nmD 999999 r).2).2
/-- What a text says, word by word. -/
def ceD (l : List UInt8) : Option Ce :=
  match sayOf (tw l) with
  | none => none
  | some s => hdD s (dw l)
theorem tail_blk (v : List UInt8) (n : Nat) : Blk (ceTail v n) := by
  unfold ceTail
  split
  · exact .inl rfl
  · exact .inr ⟨_, rfl⟩
theorem tlD_of {v : List UInt8} {n s h g : Nat} (hn : n ≤ 999999) (hv : v.length ≤ 32) (hvn : n = 0 → v = []) (hs : s = 2 → n = 0) : tlD s h g (ceTail v n) = some ⟨v, n, s, h, g⟩ := by
  unfold tlD
  by_cases c : v = [] ∧ n = 0
  · have e : ceTail v n = [] := if_pos c
    rw [if_pos e, c.1, c.2]
  · have n1 : 1 ≤ n := by
      rcases Nat.eq_zero_or_pos n with e | e
      · exact absurd ⟨hvn e, e⟩ c
      · exact e
    have e : ceTail v n = 32 :: (decDigits n ++ 32 :: 61 :: v) := if_neg c
    rw [e, if_neg (by simp), nmD_of hn (.inr ⟨_, rfl⟩)]
    have e2 : ¬ (n < 1 ∨ s = 2 ∨ (32 :: 61 :: v).take 2 ≠ [32, 61] ∨ 34 < (32 :: 61 :: v).length) := by
      rintro (a | a | a | a)
      · omega
      · have := hs a; omega
      · exact a rfl
      · simp at a; omega
    simp only
    rw [if_neg e2]
    rfl
theorem ceD_txt {c : Ce} (o : c.Ok) : ceD (ceTxt c) = some c := by
  obtain ⟨v, n, s, h, g⟩ := c
  have ov : v.length ≤ 32 := o.v
  have on : n ≤ 999999 := o.n
  have ovn : n = 0 → v = [] := o.vn
  have os : s ≤ 2 := o.s
  have oh : h ≤ 999999 := o.h
  have og0 : s = 0 → g = 0 := o.g0
  have og1 : s ≠ 0 → 1 ≤ g ∧ g ≤ 4 := o.g1
  have ogo : s = 2 → n = 0 := o.gone
  unfold ceD
  have et : ceTxt ⟨v, n, s, h, g⟩ = cw s ++ 32 :: (decDigits h ++ ((if s = 0 then [] else 32 :: decDigits g) ++ ceTail v n)) := rfl
  obtain ⟨h1, h2⟩ := tw_app (a := cw s) (r := 32 :: (decDigits h ++ ((if s = 0 then [] else 32 :: decDigits g) ++ ceTail v n))) (cw_nb s) (.inr ⟨_, rfl⟩)
  rw [et, h1, h2, sayOf_cw os]
  simp only
  unfold hdD
  by_cases c : s = 0
  · rw [if_pos c, List.nil_append, nmD_of oh (tail_blk v n)]
    simp only
    rw [if_pos c, tlD_of on ov ovn ogo, og0 c]
  · obtain ⟨g1, g4⟩ := og1 c
    rw [if_neg c, List.cons_append, nmD_of oh (.inr ⟨_, rfl⟩)]
    simp only
    rw [if_neg c, nmD_of g4 (tail_blk v n)]
    simp only
    rw [if_neg (by omega), tlD_of on ov ovn ogo]
theorem tlD_some {s h g : Nat} {r : List UInt8} {c : Ce} (e : tlD s h g r = some c) : c.s = s ∧ c.h = h ∧ c.g = g ∧ r = ceTail c.v c.n ∧ c.v.length ≤ 32 ∧ c.n ≤ 999999 ∧ (c.n = 0 → c.v = []) ∧ (s = 2 → c.n = 0) := by
  unfold tlD at e
  by_cases h0 : r = []
  · rw [if_pos h0] at e
    cases e
    exact ⟨rfl, rfl, rfl, h0, by simp, by simp, fun _ => rfl, fun _ => rfl⟩
  · rw [if_neg h0] at e
    obtain ⟨o, r3, hq⟩ : ∃ o r3, nmD 999999 r = (o, r3) := ⟨_, _, rfl⟩
    rw [hq] at e
    cases o with
    | none => simp at e
    | some n =>
      simp only at e
      split at e
      · cases e
      · rename_i hc
        simp only [not_or, Nat.not_lt, Decidable.not_not] at hc
        obtain ⟨a1, a2, a3, a4⟩ := hc
        cases e
        obtain ⟨b1, b2, b3⟩ := nmD_some hq
        have er : r3 = 32 :: 61 :: r3.drop 2 := by
          have := List.take_append_drop 2 r3
          rw [a3] at this
          exact this.symm
        refine ⟨rfl, rfl, rfl, ?_, by show (r3.drop 2).length ≤ 32; rw [List.length_drop]; omega, b1, fun e => by have e' : n = 0 := e; omega, fun e => absurd e a2⟩
        show r = ceTail (r3.drop 2) n
        unfold ceTail
        rw [if_neg (by omega), ← er]
        exact b2
theorem ceD_some {l : List UInt8} {c : Ce} (e : ceD l = some c) : l = ceTxt c ∧ c.Ok := by
  unfold ceD at e
  cases hs : sayOf (tw l) with
  | none => rw [hs] at e; cases e
  | some s =>
    rw [hs] at e
    obtain ⟨s2, sw⟩ := sayOf_some hs
    simp only at e
    unfold hdD at e
    obtain ⟨o, r1, hq⟩ : ∃ o r1, nmD 999999 (dw l) = (o, r1) := ⟨_, _, rfl⟩
    rw [hq] at e
    cases o with
    | none => simp at e
    | some h =>
      simp only at e
      obtain ⟨b1, b2, b3⟩ := nmD_some hq
      have el : l = cw s ++ 32 :: (decDigits h ++ r1) := by rw [← sw, ← b2, tw_dw]
      by_cases c0 : s = 0
      · rw [if_pos c0] at e
        obtain ⟨e1, e2, e3, e4, e5, e6, e7, e8⟩ := tlD_some e
        refine ⟨?_, ⟨e5, e6, e7, by rw [e1]; exact s2, by rw [e2]; exact b1, fun _ => e3, fun x => absurd (e1.trans c0) x, fun x => e8 (e1.symm.trans x)⟩⟩
        unfold ceTxt
        rw [e1, e2, if_pos c0, ← e4, el]
        rfl
      · rw [if_neg c0] at e
        obtain ⟨o2, r2, hq2⟩ : ∃ o r2, nmD 4 r1 = (o, r2) := ⟨_, _, rfl⟩
        rw [hq2] at e
        cases o2 with
        | none => simp at e
        | some g =>
          simp only at e
          split at e
          · cases e
          · rename_i hg
            obtain ⟨d1, d2, d3⟩ := nmD_some hq2
            obtain ⟨e1, e2, e3, e4, e5, e6, e7, e8⟩ := tlD_some e
            refine ⟨?_, ⟨e5, e6, e7, by rw [e1]; exact s2, by rw [e2]; exact b1, fun x => absurd (e1.symm.trans x) c0, fun _ => by rw [e3]; omega, fun x => e8 (e1.symm.trans x)⟩⟩
            unfold ceTxt
            rw [e1, e2, e3, if_neg c0, ← e4, el, d2]
            rfl
theorem cut_true {l : List UInt8} (h : (cut l [32, 61]).2.2 = true) : l = (cut l [32, 61]).1 ++ 32 :: 61 :: (cut l [32, 61]).2.1 := by
  rcases Lib.index_spec l [32, 61] with ⟨h1, _⟩ | ⟨i, h1, h2, h3, _⟩
  · unfold cut at h
    rw [h1, if_neg (by omega)] at h
    cases h
  · unfold cut
    rw [h1, if_pos (by omega)]
    simp only [Int.toNat_natCast]
    have h4 : ([32, 61] : List UInt8).isPrefixOf (l.drop i) = true := h3
    obtain ⟨t, ht⟩ := List.isPrefixOf_iff_prefix.1 h4
    have h5 : l.drop (i + 2) = t := by rw [← List.drop_drop, ← ht]; rfl
    have h6 := List.take_append_drop i l
    rw [← ht] at h6
    rw [show ([32, 61] : List UInt8).length = 2 from rfl, h5]
    exact h6.symm
/-- The pieces, joined again. -/
def jn : List (List UInt8) → List UInt8
  | [] => []
  | w :: ws => 32 :: (w ++ jn ws)
theorem jn_pcs (l : List UInt8) : jn (pcs l) = 32 :: l := by
  generalize hn : l.length = n
  induction n using Nat.strongRecOn generalizing l with
  | _ n ih =>
    rcases pcs_cases l with h | ⟨a, r, rfl, ha⟩
    · rw [pcs_one h]
      simp [jn]
    · rw [pcs_app ha r]
      have := ih r.length (by rw [← hn]; simp; omega) r rfl
      show 32 :: (a ++ jn (pcs r)) = _
      rw [this]
theorem ceOf_some {l : List UInt8} {c : Ce} (e : ceOf l = some c) : l = ceTxt c := by
  have hok := ceOf_ok e
  unfold ceOf at e
  obtain ⟨a, v, full, hq⟩ : ∃ a v full, cut l [32, 61] = (a, v, full) := ⟨_, _, _, rfl⟩
  have hl : (full = true → l = a ++ 32 :: 61 :: v) ∧ (full = false → v = [] ∧ l = a) := by
    refine ⟨fun hf => ?_, fun hf => ?_⟩
    · have := cut_true (l := l) (by rw [hq]; exact hf)
      rw [hq] at this
      exact this
    · have := cut_false (l := l) (by rw [hq]; exact hf)
      rw [hq] at this
      exact ⟨this.1, this.2.symm⟩
  rw [hq] at e
  simp only at e
  have hj := jn_pcs a
  unfold ceBy at e
  cases hp : pcs a with
  | nil => exact absurd hp (pcs_ne a)
  | cons w ws =>
    rw [hp] at e hj
    simp only at e
    cases hs : sayOf w with
    | none => rw [hs] at e; cases e
    | some s =>
      rw [hs] at e
      simp only at e
      split at e
      · cases e
      · obtain ⟨s2, sw⟩ := sayOf_some hs
        obtain ⟨nums, hr, hm⟩ := Option.map_eq_some_iff.1 e
        unfold ceSpec at hr
        cases ws with
        | nil => simp [ceRd] at hr
        | cons w1 ws1 =>
          obtain ⟨h, m1, e1, a1, _, r1⟩ := ceRd_cons hr
          have d1 := (amt_some a1).2
          have ha : a = cw s ++ 32 :: (decDigits h ++ jn ws1) := by
            have : (32 :: (w ++ (32 :: (w1 ++ jn ws1))) : List UInt8) = 32 :: a := hj
            rw [← sw, ← d1]
            exact (List.cons.inj this).2.symm
          by_cases c0 : s = 0
          · rw [if_pos c0, List.nil_append] at r1
            cases hf : full with
            | false =>
              rw [hf] at r1
              simp only [Bool.false_eq_true, if_false] at r1
              cases ws1 with
              | cons x y => simp [ceRd] at r1
              | nil =>
                simp [ceRd] at r1
                subst r1 e1
                obtain ⟨hv, hla⟩ := hl.2 hf
                subst hv
                simp [mkCe] at hm
                subst hm
                rw [hla, ha]
                unfold ceTxt ceTail
                simp [c0, jn]
            | true =>
              rw [hf, if_pos rfl] at r1
              cases ws1 with
              | nil => simp [ceRd] at r1
              | cons w2 ws2 =>
                obtain ⟨n, m2, e2, a2, n1, r2⟩ := ceRd_cons r1
                have d2 := (amt_some a2).2
                cases ws2 with
                | cons x y => simp [ceRd] at r2
                | nil =>
                  simp [ceRd] at r2
                  subst r2 e2 e1
                  simp [mkCe, c0] at hm
                  subst hm
                  rw [hl.1 hf, ha]
                  unfold ceTxt ceTail
                  have n0 : ¬ n = 0 := by omega
                  simp [jn, n0, ← d2, c0]
          · rw [if_neg c0] at r1
            cases ws1 with
            | nil => simp [ceRd] at r1
            | cons w2 ws2 =>
              obtain ⟨g, m2, e2, a2, g1, r2⟩ := ceRd_cons r1
              have d2 := (amt_some a2).2
              cases hf : full with
              | false =>
                rw [hf] at r2
                simp only [Bool.false_eq_true, if_false] at r2
                cases ws2 with
                | cons x y => simp [ceRd] at r2
                | nil =>
                  simp [ceRd] at r2
                  subst r2 e2 e1
                  obtain ⟨hv, hla⟩ := hl.2 hf
                  subst hv
                  simp [mkCe, c0] at hm
                  subst hm
                  rw [hla, ha]
                  unfold ceTxt ceTail
                  simp [c0, jn, ← d2]
              | true =>
                rw [hf, if_pos rfl] at r2
                cases ws2 with
                | nil => simp [ceRd] at r2
                | cons w3 ws3 =>
                  obtain ⟨n, m3, e3, a3, n1, r3⟩ := ceRd_cons r2
                  have d3 := (amt_some a3).2
                  cases ws3 with
                  | cons x y => simp [ceRd] at r3
                  | nil =>
                    simp [ceRd] at r3
                    subst r3 e3 e2 e1
                    simp [mkCe] at hm
                    subst hm
                    rw [hl.1 hf, ha]
                    unfold ceTxt ceTail
                    have n0 : ¬ n = 0 := by omega
                    simp [jn, n0, c0, ← d2, ← d3]
/-- Both readings say the same. -/
theorem ceD_is (l : List UInt8) : ceD l = ceOf l := by
  cases h : ceD l with
  | some c =>
    obtain ⟨e, o⟩ := ceD_some h
    rw [e, ceOf_txt o]
  | none =>
    cases h2 : ceOf l with
    | none => rfl
    | some c =>
      have e := ceOf_some h2
      rw [e, ceD_txt (ceOf_ok h2)] at h
      cases h
end Go.Proofs.YtflnjlbafchnaaaGreatDoor

/-
  Transactions: the document's heldOf: what a key says.
-/
namespace Go.Proofs.YtflnjlbafchnaaaGreatDoor
open Go.RowKit

theorem bs_sub (l : List UInt8) (a b : Nat) : (bs l).extract a b = bs ((l.drop a).take (b - a)) := by
  apply ByteArray.ext; simp [bs]
theorem OwnK.at {B c : Nat} {w : World} {ao : Option Addr} {ks : List (List UInt8)} (h : OwnK B w ao c ks) (hne : 0 < ks.length) : ∃ g, ao = some ⟨g, 0, none⟩ ∧ g < w.heap.size ∧ ∀ j, (hj : j < ks.length) → w.cell? ⟨g, j, none⟩ = some (.string (bs ks[j])) := by
  rcases h.2 with ⟨h1, _⟩ | ⟨g, cap, cur, hv, hb, hh, h1, h2, h3, h4⟩
  · simp at h1
    rw [h1.2.1] at hne
    simp at hne
  · simp only [Value.slice.injEq] at hv
    refine ⟨g, hv.1, lt_of_block hh, fun j hj => ?_⟩
    have h0 := blk_cell hh (i := j)
    rw [h0]
    have := congrArg (fun l => l[j]?) h4
    simp only [List.getElem?_take, if_pos (show j < ks.length * 1 by omega), Array.getElem?_toList] at this
    rw [this]
    simp [kyCells, hj]
end Go.Proofs.YtflnjlbafchnaaaGreatDoor
