/-
  Joined: WMsD, WMsE, WMsY.
-/
import Derived.Test.YtijklginabipgaaWMsC
import Derived.Test.YtijklginabipgaaWOlr
import Derived.Test.YtijklginabipgaaWOls
/-
  The program's read at a message: its ends.
-/
namespace Go.Proofs.Ytijklginabipgaa
open Go.RowKit

set_option maxRecDepth 100000 in
set_option maxHeartbeats 4000000 in
theorem readM_err (l : List UInt8) (c : Int) (w : World) (hr : rdMsg l = .error c) :
    Calls Try.prog 126 #[.string (bs l), .func (.func 127) #[] #[]] w fun e w' => e = .returned (.tuple #[.agg #[.int .i64 0, .int .i64 0, .int .i64 0, .int .i64 0, .int .i64 0, .int .i64 0, .int .i64 0, .slice none 0 0, .int .i64 0, .int .i64 0, .slice none 0 0, .slice none 0 0, .slice none 0 0, .string (bs []), .bool false, .int .i64 0, .int .i64 0], .int .i64 c]) ∧ Kept Nil w w' := by
  have hmf : ∀ (fn : Fn) (first cap : Array Value) (w : World), (Instr.makeFunc fn first cap).run Try.prog w = .ok (.func fn first cap) w := fun _ _ _ _ => rfl
  obtain ⟨hA, hE, hR⟩ := three w (.cells #[.int .i64 0, .int .i64 0, .int .i64 0, .int .i64 0, .int .i64 0, .int .i64 0, .int .i64 0, .slice none 0 0, .int .i64 0, .int .i64 0, .slice none 0 0, .slice none 0 0, .slice none 0 0, .string (bs []), .bool false, .int .i64 0, .int .i64 0] 85) (.cells #[.int .i64 0] 28) (.cells #[.string (bs l)] 190)
  have H := RdPost.no (rMessage_any _ l _ (Left.ofBlk hR)) hr
  have HA : Hid _ := hA
  have HE : Hid _ := hE
  clear hA hE hR hr
  go_enter_defers Try.func126, Try.ntmps126
  go_wp2_with (first | (go_at_call 127; go_must (refine H.mono ?_); rintro e w1 ⟨rfl, hk⟩))
  have hA1 := hk.block _ _ HA.out (show ¬ w.heap.size = w.heap.size + 2 by omega)
  have hE1 := hk.block _ _ HE.out (show ¬ w.heap.size + 1 = w.heap.size + 2 by omega)
  refine leaves_cons (f := 180) (args := #[.pointer (some ⟨w.heap.size, 0, none⟩), .pointer (some ⟨w.heap.size + 1, 0, none⟩)]) (by simp) (by simp [go_sem]) ?_
  refine (catchM_panic w.heap.size (w.heap.size + 1) c _ _ _ _ _ _ _ _ _ _ _ _ _ _ _ _ _ _ w1 hA1 hE1 (by omega)).mono ?_
  rintro e u' w2 ⟨rfl, rfl, hA2, hE2, hk2⟩
  have b0 := blk_at hA2 0 rfl
  have b1 := blk_at hA2 1 rfl
  have b2 := blk_at hA2 2 rfl
  have b3 := blk_at hA2 3 rfl
  have b4 := blk_at hA2 4 rfl
  have b5 := blk_at hA2 5 rfl
  have b6 := blk_at hA2 6 rfl
  have b7 := blk_at hA2 7 rfl
  have b8 := blk_at hA2 8 rfl
  have b9 := blk_at hA2 9 rfl
  have b10 := blk_at hA2 10 rfl
  have b11 := blk_at hA2 11 rfl
  have b12 := blk_at hA2 12 rfl
  have b13 := blk_at hA2 13 rfl
  have b14 := blk_at hA2 14 rfl
  have b15 := blk_at hA2 15 rfl
  have b16 := blk_at hA2 16 rfl
  have c0 := blk_at hE2 0 rfl
  simp [Leaves, settle, results, Try.results126, go_sem, b0, b1, b2, b3, b4, b5, b6, b7, b8, b9, b10, b11, b12, b13, b14, b15, b16, c0]
  exact Kept.ofNew (Kept.ofNew ((((Kept.refl _ _).alloc _).alloc _).alloc _) hk (fun k _ h => by have : k = w.heap.size + 2 := h; omega)) hk2 (fun k _ h => by rcases h with rfl | rfl <;> omega)

set_option maxRecDepth 100000 in
set_option maxHeartbeats 4000000 in
theorem readM_ok (l : List UInt8) (x : Mg) (w : World) (hr : rdMsg l = .ok (x, [])) :
    Calls Try.prog 126 #[.string (bs l), .func (.func 127) #[] #[]] w (GotPost (MgV w.heap.size) (x, 0) w) := by
  have hmf : ∀ (fn : Fn) (first cap : Array Value) (w : World), (Instr.makeFunc fn first cap).run Try.prog w = .ok (.func fn first cap) w := fun _ _ _ _ => rfl
  obtain ⟨hA, hE, hR⟩ := three w (.cells #[.int .i64 0, .int .i64 0, .int .i64 0, .int .i64 0, .int .i64 0, .int .i64 0, .int .i64 0, .slice none 0 0, .int .i64 0, .int .i64 0, .slice none 0 0, .slice none 0 0, .slice none 0 0, .string (bs []), .bool false, .int .i64 0, .int .i64 0] 85) (.cells #[.int .i64 0] 28) (.cells #[.string (bs l)] 190)
  have H := RdPost.ok (rMessage_any _ l _ (Left.ofBlk hR)) hr
  have HA : Hid _ := hA
  have HE : Hid _ := hE
  have hq := bs_toList []
  clear hA hE hR hr
  go_enter_defers Try.func126, Try.ntmps126
  go_wp2_with (first | (go_at_call 127; go_must (refine H.mono ?_); rintro e w1 ⟨v, rfl, hv, hc, hz, hk⟩; unfold MgV at hv; obtain ⟨ae, ce, a1, a2, a3, c1, c2, c3, rfl, hP⟩ := hv; have HP : Hid _ := hP; clear hP; have hA1 := hk.block _ _ HA.out (show ¬ w.heap.size = w.heap.size + 2 by omega); have hE1 := hk.block _ _ HE.out (show ¬ w.heap.size + 1 = w.heap.size + 2 by omega)) | (go_at_call 145; go_must (refine (must_ok _ _).mono ?_); rintro e w4 ⟨rfl, rfl⟩) | ((with_reducible refine atLoad 85 ?_); go_must (refine wpList_loadW rfl _ _ rfl _ rfl _ _ _ hb2 Try.underlying85 rfl Try.sizeMsg rfl ?_)) | ((with_reducible refine atStore 85 ?_); refine wpList_storeW rfl _ _ _ rfl _ #[.int .i64 x.kd, .int .i64 x.fr, .int .i64 x.td, .int .i64 x.tm, .int .i64 x.ix, .int .i64 x.lg, .int .i64 x.cm, .slice ae x.es.length ce, .int .i64 x.sn.ix, .int .i64 x.sn.tm, .slice a1 x.sn.c.v.length c1, .slice a2 x.sn.c.n.length c2, .slice a3 x.sn.c.l.length c3, .string (bs x.sn.dt), .bool x.rj, .int .i64 x.hn, .int .i64 x.cx] _ _ rfl rfl hb2 rfl Try.sizeMsg rfl (one17 rfl rfl rfl rfl rfl rfl rfl rfl rfl rfl rfl rfl rfl rfl rfl rfl rfl) ?_; intro w3 hb3 hk3 hs3; have hE3 := hk3.block _ _ hE2 (show ¬ w.heap.size + 1 = w.heap.size by omega); have e0 := blk_at hE3 0 rfl; have fe0 := blk_free hE3 0) | ((with_reducible refine atStore 85 ?_); go_must (refine wpList_storeW rfl _ _ _ rfl _ #[.int .i64 x.kd, .int .i64 x.fr, .int .i64 x.td, .int .i64 x.tm, .int .i64 x.ix, .int .i64 x.lg, .int .i64 x.cm, .slice ae x.es.length ce, .int .i64 x.sn.ix, .int .i64 x.sn.tm, .slice a1 x.sn.c.v.length c1, .slice a2 x.sn.c.n.length c2, .slice a3 x.sn.c.l.length c3, .string (bs x.sn.dt), .bool x.rj, .int .i64 x.hn, .int .i64 x.cx] _ _ rfl rfl hA1 rfl Try.sizeMsg rfl (one17 rfl rfl rfl rfl rfl rfl rfl rfl rfl rfl rfl rfl rfl rfl rfl rfl rfl) ?_; intro w2 hb2 hk2 hs2; have hE2 := hk2.block _ _ hE1 (show ¬ w.heap.size + 1 = w.heap.size by omega); have hc2 := (Left.keptX ⟨hc, hz⟩ hk2 (fun _ (e : w.heap.size + 2 = w.heap.size) => by omega)).cell)))
  refine leaves_cons (f := 180) (args := #[.pointer (some ⟨w.heap.size, 0, none⟩), .pointer (some ⟨w.heap.size + 1, 0, none⟩)]) (by simp) (by simp [go_sem]) ?_
  refine (catchM_idle ⟨w.heap.size, 0, none⟩ ⟨w.heap.size + 1, 0, none⟩ _).mono ?_
  rintro e u' w5 ⟨rfl, rfl, hw5⟩
  have hne : w.heap.size ≠ w.heap.size + 1 := by omega
  have hA5 : w5.heap[w.heap.size]? = some (.cells #[.int .i64 x.kd, .int .i64 x.fr, .int .i64 x.td, .int .i64 x.tm, .int .i64 x.ix, .int .i64 x.lg, .int .i64 x.cm, .slice ae x.es.length ce, .int .i64 x.sn.ix, .int .i64 x.sn.tm, .slice a1 x.sn.c.v.length c1, .slice a2 x.sn.c.n.length c2, .slice a3 x.sn.c.l.length c3, .string (bs x.sn.dt), .bool x.rj, .int .i64 x.hn, .int .i64 x.cx] 85 (0, 0)) := by rw [hw5]; exact blk_other hb3 hne _
  have hE5 : w5.heap[w.heap.size + 1]? = some (.cells #[.int .i64 0] 28 (0, 0)) := by rw [hw5]; exact blk_set hE3 0 _
  have hk5 : Kept (fun k _ => k = w.heap.size ∨ k = w.heap.size + 1) w1 w5 := by rw [hw5]; exact ((hk2.mono (fun _ _ h => .inl h)).trans (hk3.mono (fun _ _ h => .inl h))).setCell (fun _ => .inr rfl) _
  clear hw5
  have b0 := blk_at hA5 0 rfl
  have b1 := blk_at hA5 1 rfl
  have b2 := blk_at hA5 2 rfl
  have b3 := blk_at hA5 3 rfl
  have b4 := blk_at hA5 4 rfl
  have b5 := blk_at hA5 5 rfl
  have b6 := blk_at hA5 6 rfl
  have b7 := blk_at hA5 7 rfl
  have b8 := blk_at hA5 8 rfl
  have b9 := blk_at hA5 9 rfl
  have b10 := blk_at hA5 10 rfl
  have b11 := blk_at hA5 11 rfl
  have b12 := blk_at hA5 12 rfl
  have b13 := blk_at hA5 13 rfl
  have b14 := blk_at hA5 14 rfl
  have b15 := blk_at hA5 15 rfl
  have b16 := blk_at hA5 16 rfl
  have c0 := blk_at hE5 0 rfl
  simp [Leaves, settle, results, Try.results126, go_sem, b0, b1, b2, b3, b4, b5, b6, b7, b8, b9, b10, b11, b12, b13, b14, b15, b16, c0]
  have HKN : Kept Nil w w5 := Kept.ofNew (Kept.ofNew ((((Kept.refl _ _).alloc _).alloc _).alloc _) hk (fun k _ h => by have : k = w.heap.size + 2 := h; omega)) hk5 (fun k _ h => by rcases h with rfl | rfl <;> omega)
  have hsz : (((w.alloc (.cells #[.int .i64 0, .int .i64 0, .int .i64 0, .int .i64 0, .int .i64 0, .int .i64 0, .int .i64 0, .slice none 0 0, .int .i64 0, .int .i64 0, .slice none 0 0, .slice none 0 0, .slice none 0 0, .string (bs []), .bool false, .int .i64 0, .int .i64 0] 85)).alloc (.cells #[.int .i64 0] 28)).alloc (.cells #[.string (bs l)] 190)).heap.size = w.heap.size + 3 := by simp
  have HQ := HP.out
  rw [hsz] at HQ
  exact ⟨_, rfl, ⟨ae, ce, a1, a2, a3, c1, c2, c3, rfl, HQ.1, own_mono (own_kept HQ.2.1 hk5 (fun k _ hb hx => by rcases hx with h | h <;> omega)) (by omega), own_mono (own_kept HQ.2.2.1 hk5 (fun k _ hb hx => by rcases hx with h | h <;> omega)) (by omega), own_mono (own_kept HQ.2.2.2.1 hk5 (fun k _ hb hx => by rcases hx with h | h <;> omega)) (by omega), own_mono (own_kept HQ.2.2.2.2 hk5 (fun k _ hb hx => by rcases hx with h | h <;> omega)) (by omega)⟩, HKN⟩

set_option maxRecDepth 100000 in
set_option maxHeartbeats 4000000 in
theorem readM_left (l : List UInt8) (x : Mg) (y : UInt8) (t : List UInt8) (w : World) (hr : rdMsg l = .ok (x, y :: t)) :
    Calls Try.prog 126 #[.string (bs l), .func (.func 127) #[] #[]] w fun e w' => e = .returned (.tuple #[.agg #[.int .i64 0, .int .i64 0, .int .i64 0, .int .i64 0, .int .i64 0, .int .i64 0, .int .i64 0, .slice none 0 0, .int .i64 0, .int .i64 0, .slice none 0 0, .slice none 0 0, .slice none 0 0, .string (bs []), .bool false, .int .i64 0, .int .i64 0], .int .i64 1]) ∧ Kept Nil w w' := by
  have hmf : ∀ (fn : Fn) (first cap : Array Value) (w : World), (Instr.makeFunc fn first cap).run Try.prog w = .ok (.func fn first cap) w := fun _ _ _ _ => rfl
  obtain ⟨hA, hE, hR⟩ := three w (.cells #[.int .i64 0, .int .i64 0, .int .i64 0, .int .i64 0, .int .i64 0, .int .i64 0, .int .i64 0, .slice none 0 0, .int .i64 0, .int .i64 0, .slice none 0 0, .slice none 0 0, .slice none 0 0, .string (bs []), .bool false, .int .i64 0, .int .i64 0] 85) (.cells #[.int .i64 0] 28) (.cells #[.string (bs l)] 190)
  have H := RdPost.ok (rMessage_any _ l _ (Left.ofBlk hR)) hr
  have HA : Hid _ := hA
  have HE : Hid _ := hE
  have hq := bs_toList (y :: t)
  clear hA hE hR hr
  go_enter_defers Try.func126, Try.ntmps126
  go_wp2_with (first | (go_at_call 127; go_must (refine H.mono ?_); rintro e w1 ⟨v, rfl, hv, hc, hz, hk⟩; unfold MgV at hv; obtain ⟨ae, ce, a1, a2, a3, c1, c2, c3, rfl, hP⟩ := hv; have HP : Hid _ := hP; clear hP; have hA1 := hk.block _ _ HA.out (show ¬ w.heap.size = w.heap.size + 2 by omega); have hE1 := hk.block _ _ HE.out (show ¬ w.heap.size + 1 = w.heap.size + 2 by omega)) | (go_at_call 145; go_must (refine (must_no _ _).mono ?_); rintro e w4 ⟨rfl, rfl⟩) | ((with_reducible refine atStore 85 ?_); go_must (refine wpList_storeW rfl _ _ _ rfl _ #[.int .i64 x.kd, .int .i64 x.fr, .int .i64 x.td, .int .i64 x.tm, .int .i64 x.ix, .int .i64 x.lg, .int .i64 x.cm, .slice ae x.es.length ce, .int .i64 x.sn.ix, .int .i64 x.sn.tm, .slice a1 x.sn.c.v.length c1, .slice a2 x.sn.c.n.length c2, .slice a3 x.sn.c.l.length c3, .string (bs x.sn.dt), .bool x.rj, .int .i64 x.hn, .int .i64 x.cx] _ _ rfl rfl hA1 rfl Try.sizeMsg rfl (one17 rfl rfl rfl rfl rfl rfl rfl rfl rfl rfl rfl rfl rfl rfl rfl rfl rfl) ?_; intro w2 hb2 hk2 hs2; have hE2 := hk2.block _ _ hE1 (show ¬ w.heap.size + 1 = w.heap.size by omega); have hc2 := (Left.keptX ⟨hc, hz⟩ hk2 (fun _ (e : w.heap.size + 2 = w.heap.size) => by omega)).cell)))
  refine leaves_cons (f := 180) (args := #[.pointer (some ⟨w.heap.size, 0, none⟩), .pointer (some ⟨w.heap.size + 1, 0, none⟩)]) (by simp) (by simp [go_sem]) ?_
  refine (catchM_panic w.heap.size (w.heap.size + 1) 1 _ _ _ _ _ _ _ _ _ _ _ _ _ _ _ _ _ _ _ hb2 hE2 (by omega)).mono ?_
  rintro e u' w5 ⟨rfl, rfl, hA5, hE5, hk5⟩
  have b0 := blk_at hA5 0 rfl
  have b1 := blk_at hA5 1 rfl
  have b2 := blk_at hA5 2 rfl
  have b3 := blk_at hA5 3 rfl
  have b4 := blk_at hA5 4 rfl
  have b5 := blk_at hA5 5 rfl
  have b6 := blk_at hA5 6 rfl
  have b7 := blk_at hA5 7 rfl
  have b8 := blk_at hA5 8 rfl
  have b9 := blk_at hA5 9 rfl
  have b10 := blk_at hA5 10 rfl
  have b11 := blk_at hA5 11 rfl
  have b12 := blk_at hA5 12 rfl
  have b13 := blk_at hA5 13 rfl
  have b14 := blk_at hA5 14 rfl
  have b15 := blk_at hA5 15 rfl
  have b16 := blk_at hA5 16 rfl
  have c0 := blk_at hE5 0 rfl
  simp [Leaves, settle, results, Try.results126, go_sem, b0, b1, b2, b3, b4, b5, b6, b7, b8, b9, b10, b11, b12, b13, b14, b15, b16, c0]
  exact Kept.ofNew (Kept.ofNew (Kept.ofNew ((((Kept.refl _ _).alloc _).alloc _).alloc _) hk (fun k _ h => by have : k = w.heap.size + 2 := h; omega)) hk2 (fun k _ h => by have : k = w.heap.size := h; omega)) hk5 (fun k _ h => by rcases h with rfl | rfl <;> omega)

end Go.Proofs.Ytijklginabipgaa

/-
  GetMessage of any bytes.
-/
namespace Go.Proofs.Ytijklginabipgaa
open Go.RowKit

def zMg : Mg := Mg.head 0 0 0 0
theorem zMgV (B : Nat) (w : World) : MgV B zMg w (.agg #[.int .i64 0, .int .i64 0, .int .i64 0, .int .i64 0, .int .i64 0, .int .i64 0, .int .i64 0, .slice none 0 0, .int .i64 0, .int .i64 0, .slice none 0 0, .slice none 0 0, .slice none 0 0, .string (bs []), .bool false, .int .i64 0, .int .i64 0]) := ⟨none, 0, none, none, none, 0, 0, 0, rfl, ⟨fun _ => ⟨rfl, rfl⟩, fun _ => ⟨⟨rfl, rfl⟩, ⟨rfl, rfl⟩, ⟨rfl, rfl⟩⟩⟩, World.ownsRow_nil _ _ _ _, World.ownsRow_nil _ _ _ _, World.ownsRow_nil _ _ _ _, World.ownsRow_nil _ _ _ _⟩
theorem readM_any (l : List UInt8) (w : World) :
    Calls Try.prog 126 #[.string (bs l), .func (.func 127) #[] #[]] w (GotPost (MgV w.heap.size) (getAll zMg (rdMsg l)) w) := by
  cases hr : rdMsg l with
  | error c =>
    rw [getAll_err rfl]
    refine (readM_err l c w hr).mono ?_
    rintro e w' ⟨rfl, hk⟩
    exact ⟨_, rfl, zMgV _ _, hk⟩
  | ok x =>
    obtain ⟨x, t⟩ := x
    cases t with
    | nil =>
      rw [getAll_ok rfl]
      exact readM_ok l x w hr
    | cons y t =>
      rw [getAll_left rfl]
      refine (readM_left l x y t w hr).mono ?_
      rintro e w' ⟨rfl, hk⟩
      exact ⟨_, rfl, zMgV _ _, hk⟩

set_option maxRecDepth 100000 in
set_option maxHeartbeats 4000000 in
theorem getMessage_any (l : List UInt8) (w : World) :
    Calls Try.prog 60 #[.string (bs l)] w (GotPost (MgV w.heap.size) (getAll zMg (rdMsg l)) w) := by
  have H := fun w => readM_any l w
  generalize getAll zMg (rdMsg l) = g at H ⊢
  obtain ⟨x, c⟩ := g
  go_enter Try.func60, Try.ntmps60
  go_wp2_with fail
  refine (H _).mono ?_
  rintro e w1 ⟨v, rfl, hv, hk⟩
  obtain ⟨ae, ce, a1, a2, a3, c1, c2, c3, rfl, hnil, o0, o1, o2, o3⟩ := hv
  have HNil : Hid _ := hnil
  clear hnil
  have O0 : Hid (OwnEs (w.heap.size + 1) w1 ae ce x.es) := own_mono o0 (by simp)
  have O1 : Hid (OwnNats (w.heap.size + 1) w1 a1 c1 x.sn.c.v) := own_mono o1 (by simp)
  have O2 : Hid (OwnNats (w.heap.size + 1) w1 a2 c2 x.sn.c.n) := own_mono o2 (by simp)
  have O3 : Hid (OwnNats (w.heap.size + 1) w1 a3 c3 x.sn.c.l) := own_mono o3 (by simp)
  clear o0 o1 o2 o3
  have HBk : Hid (_) := hk.block _ _ (blk_new w (.cells #[.int .i64 0, .int .i64 0, .int .i64 0, .int .i64 0, .int .i64 0, .int .i64 0, .int .i64 0, .slice none 0 0, .int .i64 0, .int .i64 0, .slice none 0 0, .slice none 0 0, .slice none 0 0, .string (bs []), .bool false, .int .i64 0, .int .i64 0] 85)) (fun x => x.elim)
  simp only
  go_wp2_with ((with_reducible refine atStore 85 ?_); go_must (refine wpList_storeW rfl _ _ _ rfl _ #[.int .i64 x.kd, .int .i64 x.fr, .int .i64 x.td, .int .i64 x.tm, .int .i64 x.ix, .int .i64 x.lg, .int .i64 x.cm, .slice ae x.es.length ce, .int .i64 x.sn.ix, .int .i64 x.sn.tm, .slice a1 x.sn.c.v.length c1, .slice a2 x.sn.c.n.length c2, .slice a3 x.sn.c.l.length c3, .string (bs x.sn.dt), .bool x.rj, .int .i64 x.hn, .int .i64 x.cx] _ _ rfl rfl HBk.out rfl Try.sizeMsg rfl (one17 rfl rfl rfl rfl rfl rfl rfl rfl rfl rfl rfl rfl rfl rfl rfl rfl rfl) ?_; intro w9 hb9 hk9 hs9))
  have b0 := blk_at hb9 0 rfl
  have b1 := blk_at hb9 1 rfl
  have b2 := blk_at hb9 2 rfl
  have b3 := blk_at hb9 3 rfl
  have b4 := blk_at hb9 4 rfl
  have b5 := blk_at hb9 5 rfl
  have b6 := blk_at hb9 6 rfl
  have b7 := blk_at hb9 7 rfl
  have b8 := blk_at hb9 8 rfl
  have b9 := blk_at hb9 9 rfl
  have b10 := blk_at hb9 10 rfl
  have b11 := blk_at hb9 11 rfl
  have b12 := blk_at hb9 12 rfl
  have b13 := blk_at hb9 13 rfl
  have b14 := blk_at hb9 14 rfl
  have b15 := blk_at hb9 15 rfl
  have b16 := blk_at hb9 16 rfl
  refine bodyPost_ret (v := .tuple #[.agg #[.int .i64 x.kd, .int .i64 x.fr, .int .i64 x.td, .int .i64 x.tm, .int .i64 x.ix, .int .i64 x.lg, .int .i64 x.cm, .slice ae x.es.length ce, .int .i64 x.sn.ix, .int .i64 x.sn.tm, .slice a1 x.sn.c.v.length c1, .slice a2 x.sn.c.n.length c2, .slice a3 x.sn.c.l.length c3, .string (bs x.sn.dt), .bool x.rj, .int .i64 x.hn, .int .i64 x.cx], .int .i64 c]) (by simp [results, Try.results60, go_sem, b0, b1, b2, b3, b4, b5, b6, b7, b8, b9, b10, b11, b12, b13, b14, b15, b16]) rfl ?_
  exact ⟨_, rfl, ⟨ae, ce, a1, a2, a3, c1, c2, c3, rfl, HNil.out, own_mono (own_kept O0.out hk9 (fun k _ hb hx => by have : k = w.heap.size := hx; omega)) (Nat.le_succ _), own_mono (own_kept O1.out hk9 (fun k _ hb hx => by have : k = w.heap.size := hx; omega)) (Nat.le_succ _), own_mono (own_kept O2.out hk9 (fun k _ hb hx => by have : k = w.heap.size := hx; omega)) (Nat.le_succ _), own_mono (own_kept O3.out hk9 (fun k _ hb hx => by have : k = w.heap.size := hx; omega)) (Nat.le_succ _)⟩, Kept.ofNew (((Kept.refl _ _).alloc _).trans hk) hk9 (fun k _ h => by have : k = w.heap.size := h; omega)⟩

end Go.Proofs.Ytijklginabipgaa

/-
  PutMessage of a message as the reader makes it.
-/
namespace Go.Proofs.Ytijklginabipgaa
open Go.RowKit

theorem natsOf_ints (ns : List Nat) : natsOf (intsOf ns) = ns := by
  unfold natsOf intsOf
  rw [List.map_map]
  exact (List.map_congr_left (fun n _ => by simp)).trans (List.map_id ns)
theorem few_of {c : Cf} (h : c.ok = true) : Few c.v ∧ Few c.n ∧ Few c.l := by
  obtain ⟨q1, q2, q3⟩ := isCfg_facts h
  have f1 := (rise_few q1).2.1
  have f2 := (rise_few q2).2.1
  have f3 := (rise_few q3).2.1
  rw [natsOf_ints] at f1 f2 f3
  exact ⟨f1, f2, f3⟩
theorem encMsg_1 (fr td tm ix lg : Nat) : encMsg { Mg.head 1 fr td tm with ix := ix, lg := lg } = encAll [1, fr, td, tm] ++ (encAll [ix, lg]) := by simp [encMsg, encBody, Mg.head]
set_option maxRecDepth 100000 in
set_option maxHeartbeats 4000000 in
theorem putMsg_1 (fr td tm ix lg : Nat) (B : Nat) (v : Value) (w : World) (hm : Mg.Small { Mg.head 1 fr td tm with ix := ix, lg := lg }) (hok : Mg.ok { Mg.head 1 fr td tm with ix := ix, lg := lg } = true) (hv : MgV B { Mg.head 1 fr td tm with ix := ix, lg := lg } w v) :
    Calls Try.prog 59 #[v] w fun e w' => e = .returned (.tuple #[.string (bs (encMsg { Mg.head 1 fr td tm with ix := ix, lg := lg })), .int .i64 0]) ∧ Kept Nil w w' := by
  obtain ⟨ae, ce, a1, a2, a3, c1, c2, c3, rfl, hnil, o0, o1, o2, o3⟩ := hv
  obtain ⟨rfl, rfl⟩ := hnil.1 (show (1 : Nat) ≠ 5 by decide)
  obtain ⟨⟨rfl, rfl⟩, ⟨rfl, rfl⟩, ⟨rfl, rfl⟩⟩ := hnil.2 (show (1 : Nat) ≠ 7 by decide)
  have h_fr : fr ≤ 1099511627775 := hm.fr
  have h_td : td ≤ 1099511627775 := hm.td
  have h_tm : tm ≤ 1099511627775 := hm.tm
  have h_ix : ix ≤ 1099511627775 := hm.ix
  have h_lg : lg ≤ 1099511627775 := hm.lg
  have H1 : ∀ w', Kept Nil w w' → Calls Try.prog 124 #[.agg #[.int .i64 1, .int .i64 fr, .int .i64 td, .int .i64 tm, .int .i64 ix, .int .i64 lg, .int .i64 0, .slice none 0 0, .int .i64 0, .int .i64 0, .slice none 0 0, .slice none 0 0, .slice none 0 0, .string (bs []), .bool false, .int .i64 0, .int .i64 0]] w' fun e w'' => e = .returned (.bool true) ∧ Kept Nil w' w'' := fun w' hk => by
    have h := isMessage_1 fr td tm ix lg w' (from0 (by intro z hz; simp at hz; omega))
    rw [← okOf_1 fr td tm ix lg, hok] at h
    exact h
  have H2 := fun w' (hk : Kept Nil w w') => writeMsg_ok #[.int .i64 1, .int .i64 fr, .int .i64 td, .int .i64 tm, .int .i64 ix, .int .i64 lg, .int .i64 0, .slice none 0 0, .int .i64 0, .int .i64 0, .slice none 0 0, .slice none 0 0, .slice none 0 0, .string (bs []), .bool false, .int .i64 0, .int .i64 0] rfl (encMsg { Mg.head 1 fr td tm with ix := ix, lg := lg }) 7 w' (fun b w2 hk2 hb hw => by
    have h := wMessage_1 b fr td tm ix lg [] w2 hw h_fr h_td h_tm h_ix h_lg (by simp)
    rw [List.nil_append, ← encMsg_1] at h
    exact h)
  exact putMessage_gen _ _ _ _ _ _ _ _ _ _ _ _ _ _ _ _ _ true _ 0 w H1 H2

theorem encMsg_3 (fr td tm ix lg : Nat) : encMsg { Mg.head 3 fr td tm with ix := ix, lg := lg } = encAll [3, fr, td, tm] ++ (encAll [ix, lg]) := by simp [encMsg, encBody, Mg.head]
set_option maxRecDepth 100000 in
set_option maxHeartbeats 4000000 in
theorem putMsg_3 (fr td tm ix lg : Nat) (B : Nat) (v : Value) (w : World) (hm : Mg.Small { Mg.head 3 fr td tm with ix := ix, lg := lg }) (hok : Mg.ok { Mg.head 3 fr td tm with ix := ix, lg := lg } = true) (hv : MgV B { Mg.head 3 fr td tm with ix := ix, lg := lg } w v) :
    Calls Try.prog 59 #[v] w fun e w' => e = .returned (.tuple #[.string (bs (encMsg { Mg.head 3 fr td tm with ix := ix, lg := lg })), .int .i64 0]) ∧ Kept Nil w w' := by
  obtain ⟨ae, ce, a1, a2, a3, c1, c2, c3, rfl, hnil, o0, o1, o2, o3⟩ := hv
  obtain ⟨rfl, rfl⟩ := hnil.1 (show (3 : Nat) ≠ 5 by decide)
  obtain ⟨⟨rfl, rfl⟩, ⟨rfl, rfl⟩, ⟨rfl, rfl⟩⟩ := hnil.2 (show (3 : Nat) ≠ 7 by decide)
  have h_fr : fr ≤ 1099511627775 := hm.fr
  have h_td : td ≤ 1099511627775 := hm.td
  have h_tm : tm ≤ 1099511627775 := hm.tm
  have h_ix : ix ≤ 1099511627775 := hm.ix
  have h_lg : lg ≤ 1099511627775 := hm.lg
  have H1 : ∀ w', Kept Nil w w' → Calls Try.prog 124 #[.agg #[.int .i64 3, .int .i64 fr, .int .i64 td, .int .i64 tm, .int .i64 ix, .int .i64 lg, .int .i64 0, .slice none 0 0, .int .i64 0, .int .i64 0, .slice none 0 0, .slice none 0 0, .slice none 0 0, .string (bs []), .bool false, .int .i64 0, .int .i64 0]] w' fun e w'' => e = .returned (.bool true) ∧ Kept Nil w' w'' := fun w' hk => by
    have h := isMessage_3 fr td tm ix lg w' (from0 (by intro z hz; simp at hz; omega))
    rw [← okOf_3 fr td tm ix lg, hok] at h
    exact h
  have H2 := fun w' (hk : Kept Nil w w') => writeMsg_ok #[.int .i64 3, .int .i64 fr, .int .i64 td, .int .i64 tm, .int .i64 ix, .int .i64 lg, .int .i64 0, .slice none 0 0, .int .i64 0, .int .i64 0, .slice none 0 0, .slice none 0 0, .slice none 0 0, .string (bs []), .bool false, .int .i64 0, .int .i64 0] rfl (encMsg { Mg.head 3 fr td tm with ix := ix, lg := lg }) 7 w' (fun b w2 hk2 hb hw => by
    have h := wMessage_3 b fr td tm ix lg [] w2 hw h_fr h_td h_tm h_ix h_lg (by simp)
    rw [List.nil_append, ← encMsg_3] at h
    exact h)
  exact putMessage_gen _ _ _ _ _ _ _ _ _ _ _ _ _ _ _ _ _ true _ 0 w H1 H2

theorem encMsg_2 (fr td tm : Nat) (rj : Bool) : encMsg { Mg.head 2 fr td tm with rj := rj } = encAll [2, fr, td, tm] ++ (encFlag rj) := by simp [encMsg, encBody, Mg.head]
set_option maxRecDepth 100000 in
set_option maxHeartbeats 4000000 in
theorem putMsg_2 (fr td tm : Nat) (rj : Bool) (B : Nat) (v : Value) (w : World) (hm : Mg.Small { Mg.head 2 fr td tm with rj := rj }) (hok : Mg.ok { Mg.head 2 fr td tm with rj := rj } = true) (hv : MgV B { Mg.head 2 fr td tm with rj := rj } w v) :
    Calls Try.prog 59 #[v] w fun e w' => e = .returned (.tuple #[.string (bs (encMsg { Mg.head 2 fr td tm with rj := rj })), .int .i64 0]) ∧ Kept Nil w w' := by
  obtain ⟨ae, ce, a1, a2, a3, c1, c2, c3, rfl, hnil, o0, o1, o2, o3⟩ := hv
  obtain ⟨rfl, rfl⟩ := hnil.1 (show (2 : Nat) ≠ 5 by decide)
  obtain ⟨⟨rfl, rfl⟩, ⟨rfl, rfl⟩, ⟨rfl, rfl⟩⟩ := hnil.2 (show (2 : Nat) ≠ 7 by decide)
  have h_fr : fr ≤ 1099511627775 := hm.fr
  have h_td : td ≤ 1099511627775 := hm.td
  have h_tm : tm ≤ 1099511627775 := hm.tm
  have H1 : ∀ w', Kept Nil w w' → Calls Try.prog 124 #[.agg #[.int .i64 2, .int .i64 fr, .int .i64 td, .int .i64 tm, .int .i64 0, .int .i64 0, .int .i64 0, .slice none 0 0, .int .i64 0, .int .i64 0, .slice none 0 0, .slice none 0 0, .slice none 0 0, .string (bs []), .bool rj, .int .i64 0, .int .i64 0]] w' fun e w'' => e = .returned (.bool true) ∧ Kept Nil w' w'' := fun w' hk => by
    have h := isMessage_2 fr td tm rj w' (from0 (by intro z hz; simp at hz; omega))
    rw [← okOf_2 fr td tm rj, hok] at h
    exact h
  have H2 := fun w' (hk : Kept Nil w w') => writeMsg_ok #[.int .i64 2, .int .i64 fr, .int .i64 td, .int .i64 tm, .int .i64 0, .int .i64 0, .int .i64 0, .slice none 0 0, .int .i64 0, .int .i64 0, .slice none 0 0, .slice none 0 0, .slice none 0 0, .string (bs []), .bool rj, .int .i64 0, .int .i64 0] rfl (encMsg { Mg.head 2 fr td tm with rj := rj }) 7 w' (fun b w2 hk2 hb hw => by
    have h := wMessage_2 b fr td tm rj [] w2 hw h_fr h_td h_tm (by simp)
    rw [List.nil_append, ← encMsg_2] at h
    exact h)
  exact putMessage_gen _ _ _ _ _ _ _ _ _ _ _ _ _ _ _ _ _ true _ 0 w H1 H2

theorem encMsg_4 (fr td tm : Nat) (rj : Bool) : encMsg { Mg.head 4 fr td tm with rj := rj } = encAll [4, fr, td, tm] ++ (encFlag rj) := by simp [encMsg, encBody, Mg.head]
set_option maxRecDepth 100000 in
set_option maxHeartbeats 4000000 in
theorem putMsg_4 (fr td tm : Nat) (rj : Bool) (B : Nat) (v : Value) (w : World) (hm : Mg.Small { Mg.head 4 fr td tm with rj := rj }) (hok : Mg.ok { Mg.head 4 fr td tm with rj := rj } = true) (hv : MgV B { Mg.head 4 fr td tm with rj := rj } w v) :
    Calls Try.prog 59 #[v] w fun e w' => e = .returned (.tuple #[.string (bs (encMsg { Mg.head 4 fr td tm with rj := rj })), .int .i64 0]) ∧ Kept Nil w w' := by
  obtain ⟨ae, ce, a1, a2, a3, c1, c2, c3, rfl, hnil, o0, o1, o2, o3⟩ := hv
  obtain ⟨rfl, rfl⟩ := hnil.1 (show (4 : Nat) ≠ 5 by decide)
  obtain ⟨⟨rfl, rfl⟩, ⟨rfl, rfl⟩, ⟨rfl, rfl⟩⟩ := hnil.2 (show (4 : Nat) ≠ 7 by decide)
  have h_fr : fr ≤ 1099511627775 := hm.fr
  have h_td : td ≤ 1099511627775 := hm.td
  have h_tm : tm ≤ 1099511627775 := hm.tm
  have H1 : ∀ w', Kept Nil w w' → Calls Try.prog 124 #[.agg #[.int .i64 4, .int .i64 fr, .int .i64 td, .int .i64 tm, .int .i64 0, .int .i64 0, .int .i64 0, .slice none 0 0, .int .i64 0, .int .i64 0, .slice none 0 0, .slice none 0 0, .slice none 0 0, .string (bs []), .bool rj, .int .i64 0, .int .i64 0]] w' fun e w'' => e = .returned (.bool true) ∧ Kept Nil w' w'' := fun w' hk => by
    have h := isMessage_4 fr td tm rj w' (from0 (by intro z hz; simp at hz; omega))
    rw [← okOf_4 fr td tm rj, hok] at h
    exact h
  have H2 := fun w' (hk : Kept Nil w w') => writeMsg_ok #[.int .i64 4, .int .i64 fr, .int .i64 td, .int .i64 tm, .int .i64 0, .int .i64 0, .int .i64 0, .slice none 0 0, .int .i64 0, .int .i64 0, .slice none 0 0, .slice none 0 0, .slice none 0 0, .string (bs []), .bool rj, .int .i64 0, .int .i64 0] rfl (encMsg { Mg.head 4 fr td tm with rj := rj }) 7 w' (fun b w2 hk2 hb hw => by
    have h := wMessage_4 b fr td tm rj [] w2 hw h_fr h_td h_tm (by simp)
    rw [List.nil_append, ← encMsg_4] at h
    exact h)
  exact putMessage_gen _ _ _ _ _ _ _ _ _ _ _ _ _ _ _ _ _ true _ 0 w H1 H2

theorem encMsg_5 (fr td tm ix lg cm cx : Nat) (es : List En) : encMsg { Mg.head 5 fr td tm with ix := ix, lg := lg, cm := cm, cx := cx, es := es } = encAll [5, fr, td, tm] ++ (encAll [ix, lg, cm, cx] ++ encList encEn es) := by simp [encMsg, encBody, Mg.head]
set_option maxRecDepth 100000 in
set_option maxHeartbeats 4000000 in
theorem putMsg_5 (fr td tm ix lg cm cx : Nat) (es : List En) (B : Nat) (v : Value) (w : World) (hm : Mg.Small { Mg.head 5 fr td tm with ix := ix, lg := lg, cm := cm, cx := cx, es := es }) (hok : Mg.ok { Mg.head 5 fr td tm with ix := ix, lg := lg, cm := cm, cx := cx, es := es } = true) (hv : MgV B { Mg.head 5 fr td tm with ix := ix, lg := lg, cm := cm, cx := cx, es := es } w v) :
    Calls Try.prog 59 #[v] w fun e w' => e = .returned (.tuple #[.string (bs (encMsg { Mg.head 5 fr td tm with ix := ix, lg := lg, cm := cm, cx := cx, es := es })), .int .i64 0]) ∧ Kept Nil w w' := by
  obtain ⟨ae, ce, a1, a2, a3, c1, c2, c3, rfl, hnil, o0, o1, o2, o3⟩ := hv
  obtain ⟨⟨rfl, rfl⟩, ⟨rfl, rfl⟩, ⟨rfl, rfl⟩⟩ := hnil.2 (show (5 : Nat) ≠ 7 by decide)
  have h_fr : fr ≤ 1099511627775 := hm.fr
  have h_td : td ≤ 1099511627775 := hm.td
  have h_tm : tm ≤ 1099511627775 := hm.tm
  have h_ix : ix ≤ 1099511627775 := hm.ix
  have h_lg : lg ≤ 1099511627775 := hm.lg
  have h_cm : cm ≤ 1099511627775 := hm.cm
  have h_cx : cx ≤ 1099511627775 := hm.cx
  have he : es.length ≤ 8 ∧ ∀ e ∈ es, e.ok = true := hm.es
  have OE : OwnEs B w ae ce es := o0
  have H1 : ∀ w', Kept Nil w w' → Calls Try.prog 124 #[.agg #[.int .i64 5, .int .i64 fr, .int .i64 td, .int .i64 tm, .int .i64 ix, .int .i64 lg, .int .i64 cm, .slice ae es.length ce, .int .i64 0, .int .i64 0, .slice none 0 0, .slice none 0 0, .slice none 0 0, .string (bs []), .bool false, .int .i64 0, .int .i64 cx]] w' fun e w'' => e = .returned (.bool true) ∧ Kept Nil w' w'' := fun w' hk => by
    have h := isMessage_5 fr td tm ix lg cm cx ae _ ce es w' (OwnEs.row (own_kept OE hk (fun _ _ _ x => x.elim)) (ens_small he.2)) (by omega) (by omega) (by have := he.1; omega) (from0 (by intro z hz; simp at hz; omega))
    rw [← okOf_5 fr td tm ix lg cm cx es, hok] at h
    exact h
  have H2 := fun w' (hk : Kept Nil w w') => writeMsg_ok #[.int .i64 5, .int .i64 fr, .int .i64 td, .int .i64 tm, .int .i64 ix, .int .i64 lg, .int .i64 cm, .slice ae es.length ce, .int .i64 0, .int .i64 0, .slice none 0 0, .slice none 0 0, .slice none 0 0, .string (bs []), .bool false, .int .i64 0, .int .i64 cx] rfl (encMsg { Mg.head 5 fr td tm with ix := ix, lg := lg, cm := cm, cx := cx, es := es }) 7 w' (fun b w2 hk2 hb hw => by
    have h := wMessage_5 b fr td tm ix lg cm cx ae w'.heap.size ce es [] w2 hw ((OwnEs.row (own_kept OE hk (fun _ _ _ x => x.elim)) (ens_small he.2)).nil hk2) hb he.2 he.1 h_fr h_td h_tm h_ix h_lg h_cm h_cx (by simp)
    rw [List.nil_append, ← encMsg_5] at h
    exact h)
  exact putMessage_gen _ _ _ _ _ _ _ _ _ _ _ _ _ _ _ _ _ true _ 0 w H1 H2

theorem encMsg_6 (fr td tm ix hn cx : Nat) (rj : Bool) : encMsg { Mg.head 6 fr td tm with ix := ix, rj := rj, hn := hn, cx := cx } = encAll [6, fr, td, tm] ++ (enc ix ++ encFlag rj ++ encAll [hn, cx]) := by simp [encMsg, encBody, Mg.head]
set_option maxRecDepth 100000 in
set_option maxHeartbeats 4000000 in
theorem putMsg_6 (fr td tm ix hn cx : Nat) (rj : Bool) (B : Nat) (v : Value) (w : World) (hm : Mg.Small { Mg.head 6 fr td tm with ix := ix, rj := rj, hn := hn, cx := cx }) (hok : Mg.ok { Mg.head 6 fr td tm with ix := ix, rj := rj, hn := hn, cx := cx } = true) (hv : MgV B { Mg.head 6 fr td tm with ix := ix, rj := rj, hn := hn, cx := cx } w v) :
    Calls Try.prog 59 #[v] w fun e w' => e = .returned (.tuple #[.string (bs (encMsg { Mg.head 6 fr td tm with ix := ix, rj := rj, hn := hn, cx := cx })), .int .i64 0]) ∧ Kept Nil w w' := by
  obtain ⟨ae, ce, a1, a2, a3, c1, c2, c3, rfl, hnil, o0, o1, o2, o3⟩ := hv
  obtain ⟨rfl, rfl⟩ := hnil.1 (show (6 : Nat) ≠ 5 by decide)
  obtain ⟨⟨rfl, rfl⟩, ⟨rfl, rfl⟩, ⟨rfl, rfl⟩⟩ := hnil.2 (show (6 : Nat) ≠ 7 by decide)
  have h_fr : fr ≤ 1099511627775 := hm.fr
  have h_td : td ≤ 1099511627775 := hm.td
  have h_tm : tm ≤ 1099511627775 := hm.tm
  have h_ix : ix ≤ 1099511627775 := hm.ix
  have h_hn : hn ≤ 1099511627775 := hm.hn
  have h_cx : cx ≤ 1099511627775 := hm.cx
  have H1 : ∀ w', Kept Nil w w' → Calls Try.prog 124 #[.agg #[.int .i64 6, .int .i64 fr, .int .i64 td, .int .i64 tm, .int .i64 ix, .int .i64 0, .int .i64 0, .slice none 0 0, .int .i64 0, .int .i64 0, .slice none 0 0, .slice none 0 0, .slice none 0 0, .string (bs []), .bool rj, .int .i64 hn, .int .i64 cx]] w' fun e w'' => e = .returned (.bool true) ∧ Kept Nil w' w'' := fun w' hk => by
    have h := isMessage_6 fr td tm ix hn cx rj w' (from0 (by intro z hz; simp at hz; omega))
    rw [← okOf_6 fr td tm ix hn cx rj, hok] at h
    exact h
  have H2 := fun w' (hk : Kept Nil w w') => writeMsg_ok #[.int .i64 6, .int .i64 fr, .int .i64 td, .int .i64 tm, .int .i64 ix, .int .i64 0, .int .i64 0, .slice none 0 0, .int .i64 0, .int .i64 0, .slice none 0 0, .slice none 0 0, .slice none 0 0, .string (bs []), .bool rj, .int .i64 hn, .int .i64 cx] rfl (encMsg { Mg.head 6 fr td tm with ix := ix, rj := rj, hn := hn, cx := cx }) 7 w' (fun b w2 hk2 hb hw => by
    have h := wMessage_6 b fr td tm ix hn cx rj [] w2 hw h_fr h_td h_tm h_ix h_hn h_cx (by simp)
    rw [List.nil_append, ← encMsg_6] at h
    exact h)
  exact putMessage_gen _ _ _ _ _ _ _ _ _ _ _ _ _ _ _ _ _ true _ 0 w H1 H2

theorem encMsg_7 (fr td tm cx : Nat) (sn : Sn) : encMsg { Mg.head 7 fr td tm with cx := cx, sn := sn } = encAll [7, fr, td, tm] ++ (enc cx ++ encSnap sn.ix sn.tm sn.c.v sn.c.n sn.c.l sn.dt) := by simp [encMsg, encBody, Mg.head]
set_option maxRecDepth 100000 in
set_option maxHeartbeats 4000000 in
theorem putMsg_7 (fr td tm cx : Nat) (sn : Sn) (B : Nat) (v : Value) (w : World) (hm : Mg.Small { Mg.head 7 fr td tm with cx := cx, sn := sn }) (hok : Mg.ok { Mg.head 7 fr td tm with cx := cx, sn := sn } = true) (hv : MgV B { Mg.head 7 fr td tm with cx := cx, sn := sn } w v) :
    Calls Try.prog 59 #[v] w fun e w' => e = .returned (.tuple #[.string (bs (encMsg { Mg.head 7 fr td tm with cx := cx, sn := sn })), .int .i64 0]) ∧ Kept Nil w w' := by
  obtain ⟨ae, ce, a1, a2, a3, c1, c2, c3, rfl, hnil, o0, o1, o2, o3⟩ := hv
  obtain ⟨rfl, rfl⟩ := hnil.1 (show (7 : Nat) ≠ 5 by decide)
  have h_fr : fr ≤ 1099511627775 := hm.fr
  have h_td : td ≤ 1099511627775 := hm.td
  have h_tm : tm ≤ 1099511627775 := hm.tm
  have h_cx : cx ≤ 1099511627775 := hm.cx
  have hc : sn.c.ok = true := hm.sn rfl
  have hsi : sn.ix ≤ 1099511627775 := hm.si
  have hst : sn.tm ≤ 1099511627775 := hm.st
  have hsd : sn.dt.length ≤ 8192 := hm.sd
  have O1 : OwnNats B w a1 c1 sn.c.v := o1
  have O2 : OwnNats B w a2 c2 sn.c.n := o2
  have O3 : OwnNats B w a3 c3 sn.c.l := o3
  have H1 : ∀ w', Kept Nil w w' → Calls Try.prog 124 #[.agg #[.int .i64 7, .int .i64 fr, .int .i64 td, .int .i64 tm, .int .i64 0, .int .i64 0, .int .i64 0, .slice none 0 0, .int .i64 sn.ix, .int .i64 sn.tm, .slice a1 sn.c.v.length c1, .slice a2 sn.c.n.length c2, .slice a3 sn.c.l.length c3, .string (bs sn.dt), .bool false, .int .i64 0, .int .i64 cx]] w' fun e w'' => e = .returned (.bool true) ∧ Kept Nil w' w'' := fun w' hk => by
    have h := isMsg7 fr td tm cx sn c1 c2 c3 a1 a2 a3 w' (cf_rows (own_kept O1 hk (fun _ _ _ x => x.elim)) (own_kept O2 hk (fun _ _ _ x => x.elim)) (own_kept O3 hk (fun _ _ _ x => x.elim))) ⟨hc, hsd⟩ (from0 (by intro z hz; simp at hz; omega))
    rw [← okOf_7 fr td tm cx sn, hok] at h
    exact h
  have H2 := fun w' (hk : Kept Nil w w') => writeMsg_ok #[.int .i64 7, .int .i64 fr, .int .i64 td, .int .i64 tm, .int .i64 0, .int .i64 0, .int .i64 0, .slice none 0 0, .int .i64 sn.ix, .int .i64 sn.tm, .slice a1 sn.c.v.length c1, .slice a2 sn.c.n.length c2, .slice a3 sn.c.l.length c3, .string (bs sn.dt), .bool false, .int .i64 0, .int .i64 cx] rfl (encMsg { Mg.head 7 fr td tm with cx := cx, sn := sn }) 7 w' (fun b w2 hk2 hb hw => by
    have h := wMessage_7 b fr td tm cx sn.ix sn.tm w'.heap.size c1 c2 c3 a1 a2 a3 sn.c.v sn.c.n sn.c.l sn.dt [] w2 hw ((cf_rows (own_kept O1 hk (fun _ _ _ x => x.elim)) (own_kept O2 hk (fun _ _ _ x => x.elim)) (own_kept O3 hk (fun _ _ _ x => x.elim))).nil hk2) hb (few_of hc).1 (few_of hc).2.1 (few_of hc).2.2 hsi hst hsd h_fr h_td h_tm h_cx (by simp)
    rw [List.nil_append, ← encMsg_7] at h
    exact h)
  exact putMessage_gen _ _ _ _ _ _ _ _ _ _ _ _ _ _ _ _ _ true _ 0 w H1 H2

set_option maxRecDepth 100000 in
set_option maxHeartbeats 4000000 in
theorem putMsg_zero (w : World) :
    Calls Try.prog 59 #[.agg #[.int .i64 0, .int .i64 0, .int .i64 0, .int .i64 0, .int .i64 0, .int .i64 0, .int .i64 0, .slice none 0 0, .int .i64 0, .int .i64 0, .slice none 0 0, .slice none 0 0, .slice none 0 0, .string (bs []), .bool false, .int .i64 0, .int .i64 0]] w fun e w' => e = .returned (.tuple #[.string (bs []), .int .i64 7]) ∧ Kept Nil w w' := by
  have H1 : ∀ w', Kept Nil w w' → Calls Try.prog 124 #[.agg #[.int .i64 0, .int .i64 0, .int .i64 0, .int .i64 0, .int .i64 0, .int .i64 0, .int .i64 0, .slice none 0 0, .int .i64 0, .int .i64 0, .slice none 0 0, .slice none 0 0, .slice none 0 0, .string (bs []), .bool false, .int .i64 0, .int .i64 0]] w' fun e w'' => e = .returned (.bool false) ∧ Kept Nil w' w'' := fun w' _ => by
    have h := isMessage_o 0 0 0 0 w' (.inl rfl) (from0 (by intro z hz; simp at hz; omega))
    rw [Bool.and_false] at h
    exact h
  have H2 := fun w' (_ : Kept Nil w w') => writeMsg_no #[.int .i64 0, .int .i64 0, .int .i64 0, .int .i64 0, .int .i64 0, .int .i64 0, .int .i64 0, .slice none 0 0, .int .i64 0, .int .i64 0, .slice none 0 0, .slice none 0 0, .slice none 0 0, .string (bs []), .bool false, .int .i64 0, .int .i64 0] w' 7 (.func (.func 125) #[] #[])
  exact putMessage_gen _ _ _ _ _ _ _ _ _ _ _ _ _ _ _ _ _ false _ 7 w H1 H2
theorem putMsg_any (m : Mg) (B : Nat) (v : Value) (w : World) (hs : m.Shape) (hm : m.Small) (hok : m.ok = true) (hv : MgV B m w v) :
    Calls Try.prog 59 #[v] w fun e w' => e = .returned (.tuple #[.string (bs (encMsg m)), .int .i64 0]) ∧ Kept Nil w w' := by
  cases hs with
  | vote kd fr td tm ix lg hk =>
    rcases hk with rfl | rfl
    · exact putMsg_1 fr td tm ix lg B v w hm hok hv
    · exact putMsg_3 fr td tm ix lg B v w hm hok hv
  | reply kd fr td tm rj hk =>
    rcases hk with rfl | rfl
    · exact putMsg_2 fr td tm rj B v w hm hok hv
    · exact putMsg_4 fr td tm rj B v w hm hok hv
  | app fr td tm ix lg cm cx es => exact putMsg_5 fr td tm ix lg cm cx es B v w hm hok hv
  | back fr td tm ix hn cx rj => exact putMsg_6 fr td tm ix hn cx rj B v w hm hok hv
  | inst fr td tm cx sn => exact putMsg_7 fr td tm cx sn B v w hm hok hv
  | other kd fr td tm hk =>
    rw [okOf_o kd fr td tm hk, Bool.and_false] at hok
    cases hok

end Go.Proofs.Ytijklginabipgaa
