/-
  Joined: WShM.
-/
import Derived.Test.YtpfgnhockfofhaaM25
/-
  Shards: a step is done.
-/
namespace Go.Proofs.Ytpfgnhockfofhaa
open Go.RowKit

/-- Behind the last call a cell of this call's own is written. -/
theorem ShPost.done {Gs : Nat → Nat → Prop} {w W w6 w9 : World} {R b hb ch : Nat} {hs : Nat → Nat} {S' : Sd} (hG : ∀ i g, Gs i g → g < w.heap.size) (hK : Kept Nil w W) (hA : w.heap.size ≤ R) (hA2 : R < W.heap.size) (y : ShPost Gs W b hb ch hs S' w6) (k9 : Kept (One R) w6 w9) : ShPost Gs w b hb ch hs S' w9 := by
  obtain ⟨⟨Gs', aw', cw', x', h'⟩, k'⟩ := y
  refine ⟨⟨Gs', aw', cw', x'.keptX k9 (fun i q o hq e => ?_), fun j g hg => (h' j g hg).imp id (Nat.le_trans hK.size)⟩, ⟨(k9.os.trans k'.os).trans hK.os, (k9.tape.trans k'.tape).trans hK.tape, (k9.output.trans k'.output).trans hK.output, Nat.le_trans (Nat.le_trans hK.size k'.size) k9.size, fun q o ho hx => k9.block q o (k'.block q o (hK.block q o ho (fun e => e)) hx) (fun e => ?_)⟩⟩
  · have e : q = R := e
    rw [e] at hq
    rcases h' i R hq with h | h
    · have := hG i R h; omega
    · omega
  · have e : q = R := e
    have := lt_of_block ho
    omega
/-- A block of this call's own behind a call on shards. -/
theorem ShPost.own {Gs : Nat → Nat → Prop} {w W w6 : World} {R b hb ch : Nat} {hs : Nat → Nat} {S' : Sd} {o : Obj} (hG : ∀ i g, Gs i g → g < w.heap.size) (hA : w.heap.size ≤ R) (y : ShPost Gs W b hb ch hs S' w6) (h : W.heap[R]? = some o) : w6.heap[R]? = some o := by
  obtain ⟨_, k'⟩ := y
  refine k'.block _ _ h (fun e => ?_)
  obtain ⟨j, e⟩ := e
  have := hG j R e
  omega
theorem ShX.called {Gs : Nat → Nat → Prop} {w w' : World} {b hb ch : Nat} {hs : Nat → Nat} {aw : Option Addr} {cw : Nat} {S : Sd} (x : ShX Gs w b hb ch hs aw cw S) {i : Nat} (hi : i < S.n) {h' : Hd} (y : HoM (GN (Gs i) w) w' (hs i) (i + 1 : Nat) h') (k : Kept (TG (Gs i)) w w') : ShPost Gs w b hb ch hs (putH S i h') w' := ShPost.ofWay (x.host hi y k) k
set_option maxRecDepth 100000 in
set_option maxHeartbeats 8000000 in
theorem do_carry (K : List (List UInt8)) (M : Nat) (Gs : Nat → Nat → Prop) (b hb ch cw : Nat) (hs : Nat → Nat) (aw : Option Addr) (S T : Sd) (kd hh ot nn : Int) (ky up vl : List UInt8) (w : World) (x : ShX Gs w b hb ch hs aw cw S) (inv : Inv K M S) (hM : M ≤ 1900000) (hk : 6 ≤ kd) (hT : T = carryS kd nn S) :
    Calls Try.prog 27 #[.pointer (some ⟨b, 0, none⟩), .agg #[.int .i64 kd, .int .i64 hh, .int .i64 ot, .int .i64 nn, .string (bs ky), .string (bs up), .string (bs vl)]] w fun e w' => e = .returned (.agg (anC an0)) ∧ ShPost Gs w b hb ch hs T w' := by
  have HIn : Hid (Inv K M S) := inv
  have HX : Hid (ShX Gs w b hb ch hs aw cw S) := x
  obtain ⟨W, hW⟩ : ∃ W, W = (w.alloc (.cells #[.int .i64 kd, .int .i64 hh, .int .i64 ot, .int .i64 nn, .string (bs ky), .string (bs up), .string (bs vl)] 74)).alloc (.cells #[.int .i64 0, .int .i64 0, .int .i64 0, .string ⟨#[]⟩, .int .i64 0, .slice none 0 0] 80) := ⟨_, rfl⟩
  obtain ⟨A, HA⟩ : ∃ A : Nat, Hid (A = w.heap.size) := ⟨_, rfl⟩
  obtain ⟨R, HR⟩ : ∃ R : Nat, Hid (R = w.heap.size + 1) := ⟨_, rfl⟩
  have KW : Hid (Kept Nil w W) := by rw [hW]; exact ((Kept.refl _ _).alloc _).alloc _
  have HAW : Hid (W.heap[A]? = some (.cells #[.int .i64 kd, .int .i64 hh, .int .i64 ot, .int .i64 nn, .string (bs ky), .string (bs up), .string (bs vl)] 74 (0, 0))) := by rw [hW, HA.out]; exact blk_past (blk_new _ _) _
  have HRW : Hid (W.heap[R]? = some (.cells #[.int .i64 0, .int .i64 0, .int .i64 0, .string ⟨#[]⟩, .int .i64 0, .slice none 0 0] 80 (0, 0))) := by rw [hW, HR.out]; exact blk_new1 w _ _
  have HRB : Hid (w.heap.size ≤ R ∧ R < W.heap.size) := ⟨by rw [HR.out]; omega, lt_of_block HRW.out⟩
  have HXW : Hid (ShX Gs W b hb ch hs aw cw S) := x.kept KW.out
  have p0 : W.cell? ⟨A, 0, none⟩ = some (.int .i64 kd) := blk_at HAW.out 0 rfl
  have p1 : W.cell? ⟨A, 1, none⟩ = some (.int .i64 hh) := blk_at HAW.out 1 rfl
  have p3 : W.cell? ⟨A, 3, none⟩ = some (.int .i64 nn) := blk_at HAW.out 3 rfl
  have CA := carry_any K M kd nn Gs b hb ch cw hs aw S W HXW.out HIn.out hM
  rw [← hT] at CA
  clear hT
  clear x inv
  go_enter Try.func27, Try.ntmps27
  go_upto_region 1 with fail
  rw [← hW, ← HR.out, ← HA.out]
  clear hW
  go_wp2_with fail
  go_fit CA
  rintro e w6 ⟨rfl, y6⟩
  have HY : Hid (ShPost Gs W b hb ch hs T w6) := y6
  have HR6 : Hid (w6.heap[R]? = some (.cells #[.int .i64 0, .int .i64 0, .int .i64 0, .string ⟨#[]⟩, .int .i64 0, .slice none 0 0] 80 (0, 0))) := HY.out.own HX.out.lt HRB.out.1 HRW.out
  clear CA y6 p0 p1 p3
  go_wp2_with ((with_reducible refine atStore 80 ?_); go_must (refine wpList_storeW rfl _ _ _ rfl _ (anC an0) _ _ rfl rfl HR6.out rfl Try.sizeAn rfl (anC_one _) ?_); intro w9 hb9 hk9 hs9)
  refine bodyPost_ret (results_cellW rfl rfl hb9 Try.underlying80 rfl Try.sizeAn rfl) rfl ⟨rfl, ?_⟩
  exact ShPost.done HX.out.lt KW.out HRB.out.1 HRB.out.2 HY.out hk9
set_option maxRecDepth 100000 in
set_option maxHeartbeats 8000000 in
theorem do_nohost (K : List (List UInt8)) (M : Nat) (Gs : Nat → Nat → Prop) (b hb ch cw : Nat) (hs : Nat → Nat) (aw : Option Addr) (S T : Sd) (kd hh ot nn : Int) (ky up vl : List UInt8) (w : World) (x : ShX Gs w b hb ch hs aw cw S) (inv : Inv K M S) (hk : ¬ 6 ≤ kd) (hh0 : isHo S.n hh = false) (hT : T = S) :
    Calls Try.prog 27 #[.pointer (some ⟨b, 0, none⟩), .agg #[.int .i64 kd, .int .i64 hh, .int .i64 ot, .int .i64 nn, .string (bs ky), .string (bs up), .string (bs vl)]] w fun e w' => e = .returned (.agg (anC (anE 17))) ∧ ShPost Gs w b hb ch hs T w' := by
  have HIn : Hid (Inv K M S) := inv
  have HX : Hid (ShX Gs w b hb ch hs aw cw S) := x
  obtain ⟨W, hW⟩ : ∃ W, W = (w.alloc (.cells #[.int .i64 kd, .int .i64 hh, .int .i64 ot, .int .i64 nn, .string (bs ky), .string (bs up), .string (bs vl)] 74)).alloc (.cells #[.int .i64 0, .int .i64 0, .int .i64 0, .string ⟨#[]⟩, .int .i64 0, .slice none 0 0] 80) := ⟨_, rfl⟩
  obtain ⟨A, HA⟩ : ∃ A : Nat, Hid (A = w.heap.size) := ⟨_, rfl⟩
  obtain ⟨R, HR⟩ : ∃ R : Nat, Hid (R = w.heap.size + 1) := ⟨_, rfl⟩
  have KW : Hid (Kept Nil w W) := by rw [hW]; exact ((Kept.refl _ _).alloc _).alloc _
  have HAW : Hid (W.heap[A]? = some (.cells #[.int .i64 kd, .int .i64 hh, .int .i64 ot, .int .i64 nn, .string (bs ky), .string (bs up), .string (bs vl)] 74 (0, 0))) := by rw [hW, HA.out]; exact blk_past (blk_new _ _) _
  have HRW : Hid (W.heap[R]? = some (.cells #[.int .i64 0, .int .i64 0, .int .i64 0, .string ⟨#[]⟩, .int .i64 0, .slice none 0 0] 80 (0, 0))) := by rw [hW, HR.out]; exact blk_new1 w _ _
  have HRB : Hid (w.heap.size ≤ R ∧ R < W.heap.size) := ⟨by rw [HR.out]; omega, lt_of_block HRW.out⟩
  have HXW : Hid (ShX Gs W b hb ch hs aw cw S) := x.kept KW.out
  have p0 : W.cell? ⟨A, 0, none⟩ = some (.int .i64 kd) := blk_at HAW.out 0 rfl
  have p1 : W.cell? ⟨A, 1, none⟩ = some (.int .i64 hh) := blk_at HAW.out 1 rfl
  have p3 : W.cell? ⟨A, 3, none⟩ = some (.int .i64 nn) := blk_at HAW.out 3 rfl
  have IH := isHost_any S.n b hb ch _ hh W HXW.out.blk
  rw [hh0] at IH
  rw [hT]
  clear hT
  clear x inv
  go_enter Try.func27, Try.ntmps27
  go_upto_region 1 with fail
  rw [← hW, ← HR.out, ← HA.out]
  clear hW
  go_wp2_with fail
  go_fit IH
  rintro e w6 ⟨rfl, rfl⟩
  go_wp2_with ((with_reducible refine atStore 80 ?_); go_must (refine wpList_storeW rfl _ _ _ rfl _ (anC (anE 17)) _ _ rfl rfl HRW.out rfl Try.sizeAn rfl (anC_one _) ?_); intro w9 hb9 hk9 hs9)
  refine bodyPost_ret (results_cellW rfl rfl hb9 Try.underlying80 rfl Try.sizeAn rfl) rfl ⟨rfl, ?_⟩
  exact ShPost.done HX.out.lt KW.out HRB.out.1 HRB.out.2 (ShPost.same HXW.out (Kept.refl _ _)) hk9
set_option maxRecDepth 100000 in
set_option maxHeartbeats 8000000 in
theorem do_may (K : List (List UInt8)) (M : Nat) (Gs : Nat → Nat → Prop) (b hb ch cw : Nat) (hs : Nat → Nat) (aw : Option Addr) (S T : Sd) (kd hh ot nn : Int) (ky up vl : List UInt8) (w : World) (x : ShX Gs w b hb ch hs aw cw S) (inv : Inv K M S) (hle : ky.length ≤ 1000000000000 ∧ up.length ≤ 1000000000000 ∧ vl.length ≤ 1000000000000) (hk : ¬ 6 ≤ kd) (hh0 : isHo S.n hh = true) (hm : mayS ⟨kd, hh, ot, nn, ky, up, vl⟩ = false) (hT : T = S) :
    Calls Try.prog 27 #[.pointer (some ⟨b, 0, none⟩), .agg #[.int .i64 kd, .int .i64 hh, .int .i64 ot, .int .i64 nn, .string (bs ky), .string (bs up), .string (bs vl)]] w fun e w' => e = .returned (.agg (anC (anE 5))) ∧ ShPost Gs w b hb ch hs T w' := by
  have HIn : Hid (Inv K M S) := inv
  have HX : Hid (ShX Gs w b hb ch hs aw cw S) := x
  obtain ⟨W, hW⟩ : ∃ W, W = (w.alloc (.cells #[.int .i64 kd, .int .i64 hh, .int .i64 ot, .int .i64 nn, .string (bs ky), .string (bs up), .string (bs vl)] 74)).alloc (.cells #[.int .i64 0, .int .i64 0, .int .i64 0, .string ⟨#[]⟩, .int .i64 0, .slice none 0 0] 80) := ⟨_, rfl⟩
  obtain ⟨A, HA⟩ : ∃ A : Nat, Hid (A = w.heap.size) := ⟨_, rfl⟩
  obtain ⟨R, HR⟩ : ∃ R : Nat, Hid (R = w.heap.size + 1) := ⟨_, rfl⟩
  have KW : Hid (Kept Nil w W) := by rw [hW]; exact ((Kept.refl _ _).alloc _).alloc _
  have HAW : Hid (W.heap[A]? = some (.cells #[.int .i64 kd, .int .i64 hh, .int .i64 ot, .int .i64 nn, .string (bs ky), .string (bs up), .string (bs vl)] 74 (0, 0))) := by rw [hW, HA.out]; exact blk_past (blk_new _ _) _
  have HRW : Hid (W.heap[R]? = some (.cells #[.int .i64 0, .int .i64 0, .int .i64 0, .string ⟨#[]⟩, .int .i64 0, .slice none 0 0] 80 (0, 0))) := by rw [hW, HR.out]; exact blk_new1 w _ _
  have HRB : Hid (w.heap.size ≤ R ∧ R < W.heap.size) := ⟨by rw [HR.out]; omega, lt_of_block HRW.out⟩
  have HXW : Hid (ShX Gs W b hb ch hs aw cw S) := x.kept KW.out
  have p0 : W.cell? ⟨A, 0, none⟩ = some (.int .i64 kd) := blk_at HAW.out 0 rfl
  have p1 : W.cell? ⟨A, 1, none⟩ = some (.int .i64 hh) := blk_at HAW.out 1 rfl
  have p3 : W.cell? ⟨A, 3, none⟩ = some (.int .i64 nn) := blk_at HAW.out 3 rfl
  have IH := isHost_any S.n b hb ch _ hh W HXW.out.blk
  have MB := mayBe_any kd hh ot nn ky up vl W hle
  rw [hh0] at IH
  rw [hm] at MB
  rw [hT]
  clear hT hle
  clear x inv
  go_enter Try.func27, Try.ntmps27
  go_upto_region 1 with fail
  rw [← hW, ← HR.out, ← HA.out]
  clear hW
  go_wp2_with fail
  go_fit IH
  rintro e w6 ⟨rfl, rfl⟩
  clear IH
  go_wp2_with ((with_reducible refine atLoad 74 ?_); go_must (refine wpList_loadW rfl _ _ rfl _ rfl _ _ _ HAW.out Try.underlying74 rfl Try.sizeSt rfl ?_))
  go_fit MB
  rintro e w7 ⟨rfl, k7⟩
  have HR7 : Hid (w7.heap[R]? = some (.cells #[.int .i64 0, .int .i64 0, .int .i64 0, .string ⟨#[]⟩, .int .i64 0, .slice none 0 0] 80 (0, 0))) := k7.block _ _ HRW.out (fun e => e)
  have HA7 : Hid (w7.heap[A]? = _) := k7.block _ _ HAW.out (fun e => e)
  have HK7 : Hid (Kept Nil w w7) := KW.out.trans k7
  have HX7 : Hid (ShX Gs w7 b hb ch hs aw cw S) := HXW.out.kept k7
  have HRB7 : Hid (w.heap.size ≤ R ∧ R < w7.heap.size) := ⟨HRB.out.1, lt_of_block HR7.out⟩
  clear MB k7 p0 p1 p3
  go_wp2_with ((with_reducible refine atStore 80 ?_); go_must (refine wpList_storeW rfl _ _ _ rfl _ (anC (anE 5)) _ _ rfl rfl HR7.out rfl Try.sizeAn rfl (anC_one _) ?_); intro w9 hb9 hk9 hs9)
  refine bodyPost_ret (results_cellW rfl rfl hb9 Try.underlying80 rfl Try.sizeAn rfl) rfl ⟨rfl, ?_⟩
  exact ShPost.done HX.out.lt HK7.out HRB7.out.1 HRB7.out.2 (ShPost.same HX7.out (Kept.refl _ _)) hk9
set_option maxRecDepth 100000 in
set_option maxHeartbeats 8000000 in
theorem do_answer1 (K : List (List UInt8)) (M : Nat) (Gs : Nat → Nat → Prop) (b hb ch cw : Nat) (hs : Nat → Nat) (aw : Option Addr) (S T : Sd) (hh ot nn : Int) (ky up vl : List UInt8) (w : World) (x : ShX Gs w b hb ch hs aw cw S) (inv : Inv K M S) (hM : M ≤ 1900000) (hle : ky.length ≤ 1000000000000 ∧ up.length ≤ 1000000000000 ∧ vl.length ≤ 1000000000000) (hh0 : isHo S.n hh = true) (hm : mayS ⟨1, hh, ot, nn, ky, up, vl⟩ = true) (a : An) (i : Nat) (hI : i = hh.toNat - 1) (ha : a = (answerH hh ⟨1, hh, ot, nn, ky, up, vl⟩ (S.ho i)).1) (hT : T = putH S i (answerH hh ⟨1, hh, ot, nn, ky, up, vl⟩ (S.ho i)).2) :
    Calls Try.prog 27 #[.pointer (some ⟨b, 0, none⟩), .agg #[.int .i64 1, .int .i64 hh, .int .i64 ot, .int .i64 nn, .string (bs ky), .string (bs up), .string (bs vl)]] w fun e w' => e = .returned (.agg (anC a)) ∧ ShPost Gs w b hb ch hs T w' := by
  have HIn : Hid (Inv K M S) := inv
  have HX : Hid (ShX Gs w b hb ch hs aw cw S) := x
  obtain ⟨W, hW⟩ : ∃ W, W = (w.alloc (.cells #[.int .i64 1, .int .i64 hh, .int .i64 ot, .int .i64 nn, .string (bs ky), .string (bs up), .string (bs vl)] 74)).alloc (.cells #[.int .i64 0, .int .i64 0, .int .i64 0, .string ⟨#[]⟩, .int .i64 0, .slice none 0 0] 80) := ⟨_, rfl⟩
  obtain ⟨A, HA⟩ : ∃ A : Nat, Hid (A = w.heap.size) := ⟨_, rfl⟩
  obtain ⟨R, HR⟩ : ∃ R : Nat, Hid (R = w.heap.size + 1) := ⟨_, rfl⟩
  have KW : Hid (Kept Nil w W) := by rw [hW]; exact ((Kept.refl _ _).alloc _).alloc _
  have HAW : Hid (W.heap[A]? = some (.cells #[.int .i64 1, .int .i64 hh, .int .i64 ot, .int .i64 nn, .string (bs ky), .string (bs up), .string (bs vl)] 74 (0, 0))) := by rw [hW, HA.out]; exact blk_past (blk_new _ _) _
  have HRW : Hid (W.heap[R]? = some (.cells #[.int .i64 0, .int .i64 0, .int .i64 0, .string ⟨#[]⟩, .int .i64 0, .slice none 0 0] 80 (0, 0))) := by rw [hW, HR.out]; exact blk_new1 w _ _
  have HRB : Hid (w.heap.size ≤ R ∧ R < W.heap.size) := ⟨by rw [HR.out]; omega, lt_of_block HRW.out⟩
  have HXW : Hid (ShX Gs W b hb ch hs aw cw S) := x.kept KW.out
  have p0 : W.cell? ⟨A, 0, none⟩ = some (.int .i64 1) := blk_at HAW.out 0 rfl
  have p1 : W.cell? ⟨A, 1, none⟩ = some (.int .i64 hh) := blk_at HAW.out 1 rfl
  have p3 : W.cell? ⟨A, 3, none⟩ = some (.int .i64 nn) := blk_at HAW.out 3 rfl
  have IH := isHost_any S.n b hb ch _ hh W HXW.out.blk
  have MB := mayBe_any 1 hh ot nn ky up vl W hle
  have hi1 := isHo_iff.1 hh0
  have hn9 := HIn.out.n1.2
  have HI : Hid (i = hh.toNat - 1) := hI
  have hi : i < S.n := by rw [HI.out]; omega
  have hii : (i : Int) < (S.n : Int) := by omega
  have hwr : IntKind.i64.wrap (hh - 1) = (i : Int) := by rw [IntKind.wrap_i64]; have := HI.out; omega
  have HHE : Hid (((i + 1 : Nat) : Int) = hh) := by show _ = _; have := HI.out; omega
  rw [hh0] at IH
  rw [hm] at MB
  have HaE : Hid (a = (answerH hh ⟨1, hh, ot, nn, ky, up, vl⟩ (S.ho i)).1) := ha
  have HTE : Hid (T = putH S i (answerH hh ⟨1, hh, ot, nn, ky, up, vl⟩ (S.ho i)).2) := hT
  clear hle hh0 hm hI ha hT
  clear x inv
  go_enter Try.func27, Try.ntmps27
  go_upto_region 1 with fail
  rw [← hW, ← HR.out, ← HA.out]
  clear hW
  go_wp2_with fail
  go_fit IH
  rintro e w6 ⟨rfl, rfl⟩
  clear IH
  go_wp2_with ((with_reducible refine atLoad 74 ?_); go_must (refine wpList_loadW rfl _ _ rfl _ rfl _ _ _ HAW.out Try.underlying74 rfl Try.sizeSt rfl ?_))
  go_fit MB
  rintro e w7 ⟨rfl, k7⟩
  have HR7 : Hid (w7.heap[R]? = some (.cells #[.int .i64 0, .int .i64 0, .int .i64 0, .string ⟨#[]⟩, .int .i64 0, .slice none 0 0] 80 (0, 0))) := k7.block _ _ HRW.out (fun e => e)
  have HA7 : Hid (w7.heap[A]? = _) := k7.block _ _ HAW.out (fun e => e)
  have HK7 : Hid (Kept Nil w w7) := KW.out.trans k7
  have HX7 : Hid (ShX Gs w7 b hb ch hs aw cw S) := HXW.out.kept k7
  have HRB7 : Hid (w.heap.size ≤ R ∧ R < w7.heap.size) := ⟨HRB.out.1, lt_of_block HR7.out⟩
  clear MB k7 p0 p1 p3
  have s0 : w7.cell? ⟨b, 0, none⟩ = some (.slice (some ⟨hb, 0, none⟩) S.n ch) := blk_at HX7.out.blk 0 rfl
  have r1 : w7.cell? ⟨A, 1, none⟩ = some (.int .i64 hh) := blk_at HA7.out 1 rfl
  have r0 : w7.cell? ⟨hb, i, none⟩ = some (.pointer (some ⟨hs i, 0, none⟩)) := HX7.out.at hi
  have hb7 : b < w7.heap.size := lt_of_block HX7.out.blk
  have hA7 : A < w7.heap.size := lt_of_block HA7.out
  have hh7 : hb < w7.heap.size := World.block_lt_of_cell? w7 _ r0
  go_upto_region 8 with fail
  go_quiet (fail)
  rename Nat => nq
  obtain ⟨V, hV⟩ : ∃ V, V = w7.drewN nq := ⟨_, rfl⟩
  have KV : Hid (Kept Nil w7 V) := by rw [hV]; exact (Kept.refl _ _).drewN _
  rw [← hV]
  clear hV s0 r1 r0 hb7 hA7 hh7
  have HRV : Hid (V.heap[R]? = some (.cells #[.int .i64 0, .int .i64 0, .int .i64 0, .string ⟨#[]⟩, .int .i64 0, .slice none 0 0] 80 (0, 0))) := KV.out.block _ _ HR7.out (fun e => e)
  have HAV : Hid (V.heap[A]? = _) := KV.out.block _ _ HA7.out (fun e => e)
  have HKV : Hid (Kept Nil w V) := HK7.out.trans KV.out
  have HXV : Hid (ShX Gs V b hb ch hs aw cw S) := HX7.out.kept KV.out
  have HRBV : Hid (w.heap.size ≤ R ∧ R < V.heap.size) := ⟨HRB.out.1, lt_of_block HRV.out⟩
  have v0 := blk_at HAV.out 0 rfl
  have AN := answer_any K M (Gs i) (hs i) (i + 1 : Nat) (S.ho i) ⟨1, hh, ot, nn, ky, up, vl⟩ V (HXV.out.ho i hi) (HIn.out.ho i hi) HIn.out.kl hM
  unfold stC at AN
  dsimp only at AN
  rw [HHE.out, ← HaE.out] at AN
  go_wp2_with ((with_reducible refine atLoad 74 ?_); go_must (refine wpList_loadW rfl _ _ rfl _ rfl _ _ _ HAV.out Try.underlying74 rfl Try.sizeSt rfl ?_))
  go_fit AN
  rintro e w8 ⟨rfl, x8, k8⟩
  rw [← HHE.out] at x8
  have HY : Hid (ShPost Gs V b hb ch hs T w8) := by rw [HTE.out, ← HHE.out]; exact HXV.out.called hi x8 k8
  have HR8 : Hid (w8.heap[R]? = some (.cells #[.int .i64 0, .int .i64 0, .int .i64 0, .string ⟨#[]⟩, .int .i64 0, .slice none 0 0] 80 (0, 0))) := HY.out.own HX.out.lt HRB.out.1 HRV.out
  clear AN x8 k8 v0
  go_wp2_with ((with_reducible refine atStore 80 ?_); go_must (refine wpList_storeW rfl _ _ _ rfl _ (anC a) _ _ rfl rfl HR8.out rfl Try.sizeAn rfl (anC_one _) ?_); intro w9 hb9 hk9 hs9)
  refine bodyPost_ret (results_cellW rfl rfl hb9 Try.underlying80 rfl Try.sizeAn rfl) rfl ⟨rfl, ?_⟩
  exact ShPost.done HX.out.lt HKV.out HRBV.out.1 HRBV.out.2 HY.out hk9
set_option maxRecDepth 100000 in
set_option maxHeartbeats 8000000 in
theorem do_answer2 (K : List (List UInt8)) (M : Nat) (Gs : Nat → Nat → Prop) (b hb ch cw : Nat) (hs : Nat → Nat) (aw : Option Addr) (S T : Sd) (hh ot nn : Int) (ky up vl : List UInt8) (w : World) (x : ShX Gs w b hb ch hs aw cw S) (inv : Inv K M S) (hM : M ≤ 1900000) (hle : ky.length ≤ 1000000000000 ∧ up.length ≤ 1000000000000 ∧ vl.length ≤ 1000000000000) (hh0 : isHo S.n hh = true) (hm : mayS ⟨2, hh, ot, nn, ky, up, vl⟩ = true) (a : An) (i : Nat) (hI : i = hh.toNat - 1) (ha : a = (answerH hh ⟨2, hh, ot, nn, ky, up, vl⟩ (S.ho i)).1) (hT : T = putH S i (answerH hh ⟨2, hh, ot, nn, ky, up, vl⟩ (S.ho i)).2) :
    Calls Try.prog 27 #[.pointer (some ⟨b, 0, none⟩), .agg #[.int .i64 2, .int .i64 hh, .int .i64 ot, .int .i64 nn, .string (bs ky), .string (bs up), .string (bs vl)]] w fun e w' => e = .returned (.agg (anC a)) ∧ ShPost Gs w b hb ch hs T w' := by
  have HIn : Hid (Inv K M S) := inv
  have HX : Hid (ShX Gs w b hb ch hs aw cw S) := x
  obtain ⟨W, hW⟩ : ∃ W, W = (w.alloc (.cells #[.int .i64 2, .int .i64 hh, .int .i64 ot, .int .i64 nn, .string (bs ky), .string (bs up), .string (bs vl)] 74)).alloc (.cells #[.int .i64 0, .int .i64 0, .int .i64 0, .string ⟨#[]⟩, .int .i64 0, .slice none 0 0] 80) := ⟨_, rfl⟩
  obtain ⟨A, HA⟩ : ∃ A : Nat, Hid (A = w.heap.size) := ⟨_, rfl⟩
  obtain ⟨R, HR⟩ : ∃ R : Nat, Hid (R = w.heap.size + 1) := ⟨_, rfl⟩
  have KW : Hid (Kept Nil w W) := by rw [hW]; exact ((Kept.refl _ _).alloc _).alloc _
  have HAW : Hid (W.heap[A]? = some (.cells #[.int .i64 2, .int .i64 hh, .int .i64 ot, .int .i64 nn, .string (bs ky), .string (bs up), .string (bs vl)] 74 (0, 0))) := by rw [hW, HA.out]; exact blk_past (blk_new _ _) _
  have HRW : Hid (W.heap[R]? = some (.cells #[.int .i64 0, .int .i64 0, .int .i64 0, .string ⟨#[]⟩, .int .i64 0, .slice none 0 0] 80 (0, 0))) := by rw [hW, HR.out]; exact blk_new1 w _ _
  have HRB : Hid (w.heap.size ≤ R ∧ R < W.heap.size) := ⟨by rw [HR.out]; omega, lt_of_block HRW.out⟩
  have HXW : Hid (ShX Gs W b hb ch hs aw cw S) := x.kept KW.out
  have p0 : W.cell? ⟨A, 0, none⟩ = some (.int .i64 2) := blk_at HAW.out 0 rfl
  have p1 : W.cell? ⟨A, 1, none⟩ = some (.int .i64 hh) := blk_at HAW.out 1 rfl
  have p3 : W.cell? ⟨A, 3, none⟩ = some (.int .i64 nn) := blk_at HAW.out 3 rfl
  have IH := isHost_any S.n b hb ch _ hh W HXW.out.blk
  have MB := mayBe_any 2 hh ot nn ky up vl W hle
  have hi1 := isHo_iff.1 hh0
  have hn9 := HIn.out.n1.2
  have HI : Hid (i = hh.toNat - 1) := hI
  have hi : i < S.n := by rw [HI.out]; omega
  have hii : (i : Int) < (S.n : Int) := by omega
  have hwr : IntKind.i64.wrap (hh - 1) = (i : Int) := by rw [IntKind.wrap_i64]; have := HI.out; omega
  have HHE : Hid (((i + 1 : Nat) : Int) = hh) := by show _ = _; have := HI.out; omega
  rw [hh0] at IH
  rw [hm] at MB
  have HaE : Hid (a = (answerH hh ⟨2, hh, ot, nn, ky, up, vl⟩ (S.ho i)).1) := ha
  have HTE : Hid (T = putH S i (answerH hh ⟨2, hh, ot, nn, ky, up, vl⟩ (S.ho i)).2) := hT
  clear hle hh0 hm hI ha hT
  clear x inv
  go_enter Try.func27, Try.ntmps27
  go_upto_region 1 with fail
  rw [← hW, ← HR.out, ← HA.out]
  clear hW
  go_wp2_with fail
  go_fit IH
  rintro e w6 ⟨rfl, rfl⟩
  clear IH
  go_wp2_with ((with_reducible refine atLoad 74 ?_); go_must (refine wpList_loadW rfl _ _ rfl _ rfl _ _ _ HAW.out Try.underlying74 rfl Try.sizeSt rfl ?_))
  go_fit MB
  rintro e w7 ⟨rfl, k7⟩
  have HR7 : Hid (w7.heap[R]? = some (.cells #[.int .i64 0, .int .i64 0, .int .i64 0, .string ⟨#[]⟩, .int .i64 0, .slice none 0 0] 80 (0, 0))) := k7.block _ _ HRW.out (fun e => e)
  have HA7 : Hid (w7.heap[A]? = _) := k7.block _ _ HAW.out (fun e => e)
  have HK7 : Hid (Kept Nil w w7) := KW.out.trans k7
  have HX7 : Hid (ShX Gs w7 b hb ch hs aw cw S) := HXW.out.kept k7
  have HRB7 : Hid (w.heap.size ≤ R ∧ R < w7.heap.size) := ⟨HRB.out.1, lt_of_block HR7.out⟩
  clear MB k7 p0 p1 p3
  have s0 : w7.cell? ⟨b, 0, none⟩ = some (.slice (some ⟨hb, 0, none⟩) S.n ch) := blk_at HX7.out.blk 0 rfl
  have r1 : w7.cell? ⟨A, 1, none⟩ = some (.int .i64 hh) := blk_at HA7.out 1 rfl
  have r0 : w7.cell? ⟨hb, i, none⟩ = some (.pointer (some ⟨hs i, 0, none⟩)) := HX7.out.at hi
  have hb7 : b < w7.heap.size := lt_of_block HX7.out.blk
  have hA7 : A < w7.heap.size := lt_of_block HA7.out
  have hh7 : hb < w7.heap.size := World.block_lt_of_cell? w7 _ r0
  go_upto_region 8 with fail
  go_quiet (fail)
  rename Nat => nq
  obtain ⟨V, hV⟩ : ∃ V, V = w7.drewN nq := ⟨_, rfl⟩
  have KV : Hid (Kept Nil w7 V) := by rw [hV]; exact (Kept.refl _ _).drewN _
  rw [← hV]
  clear hV s0 r1 r0 hb7 hA7 hh7
  have HRV : Hid (V.heap[R]? = some (.cells #[.int .i64 0, .int .i64 0, .int .i64 0, .string ⟨#[]⟩, .int .i64 0, .slice none 0 0] 80 (0, 0))) := KV.out.block _ _ HR7.out (fun e => e)
  have HAV : Hid (V.heap[A]? = _) := KV.out.block _ _ HA7.out (fun e => e)
  have HKV : Hid (Kept Nil w V) := HK7.out.trans KV.out
  have HXV : Hid (ShX Gs V b hb ch hs aw cw S) := HX7.out.kept KV.out
  have HRBV : Hid (w.heap.size ≤ R ∧ R < V.heap.size) := ⟨HRB.out.1, lt_of_block HRV.out⟩
  have v0 := blk_at HAV.out 0 rfl
  have AN := answer_any K M (Gs i) (hs i) (i + 1 : Nat) (S.ho i) ⟨2, hh, ot, nn, ky, up, vl⟩ V (HXV.out.ho i hi) (HIn.out.ho i hi) HIn.out.kl hM
  unfold stC at AN
  dsimp only at AN
  rw [HHE.out, ← HaE.out] at AN
  go_wp2_with ((with_reducible refine atLoad 74 ?_); go_must (refine wpList_loadW rfl _ _ rfl _ rfl _ _ _ HAV.out Try.underlying74 rfl Try.sizeSt rfl ?_))
  go_fit AN
  rintro e w8 ⟨rfl, x8, k8⟩
  rw [← HHE.out] at x8
  have HY : Hid (ShPost Gs V b hb ch hs T w8) := by rw [HTE.out, ← HHE.out]; exact HXV.out.called hi x8 k8
  have HR8 : Hid (w8.heap[R]? = some (.cells #[.int .i64 0, .int .i64 0, .int .i64 0, .string ⟨#[]⟩, .int .i64 0, .slice none 0 0] 80 (0, 0))) := HY.out.own HX.out.lt HRB.out.1 HRV.out
  clear AN x8 k8 v0
  go_wp2_with ((with_reducible refine atStore 80 ?_); go_must (refine wpList_storeW rfl _ _ _ rfl _ (anC a) _ _ rfl rfl HR8.out rfl Try.sizeAn rfl (anC_one _) ?_); intro w9 hb9 hk9 hs9)
  refine bodyPost_ret (results_cellW rfl rfl hb9 Try.underlying80 rfl Try.sizeAn rfl) rfl ⟨rfl, ?_⟩
  exact ShPost.done HX.out.lt HKV.out HRBV.out.1 HRBV.out.2 HY.out hk9
set_option maxRecDepth 100000 in
set_option maxHeartbeats 8000000 in
theorem do_answer3 (K : List (List UInt8)) (M : Nat) (Gs : Nat → Nat → Prop) (b hb ch cw : Nat) (hs : Nat → Nat) (aw : Option Addr) (S T : Sd) (hh ot nn : Int) (ky up vl : List UInt8) (w : World) (x : ShX Gs w b hb ch hs aw cw S) (inv : Inv K M S) (hM : M ≤ 1900000) (hle : ky.length ≤ 1000000000000 ∧ up.length ≤ 1000000000000 ∧ vl.length ≤ 1000000000000) (hh0 : isHo S.n hh = true) (hm : mayS ⟨3, hh, ot, nn, ky, up, vl⟩ = true) (a : An) (i : Nat) (hI : i = hh.toNat - 1) (ha : a = (answerH hh ⟨3, hh, ot, nn, ky, up, vl⟩ (S.ho i)).1) (hT : T = putH S i (answerH hh ⟨3, hh, ot, nn, ky, up, vl⟩ (S.ho i)).2) :
    Calls Try.prog 27 #[.pointer (some ⟨b, 0, none⟩), .agg #[.int .i64 3, .int .i64 hh, .int .i64 ot, .int .i64 nn, .string (bs ky), .string (bs up), .string (bs vl)]] w fun e w' => e = .returned (.agg (anC a)) ∧ ShPost Gs w b hb ch hs T w' := by
  have HIn : Hid (Inv K M S) := inv
  have HX : Hid (ShX Gs w b hb ch hs aw cw S) := x
  obtain ⟨W, hW⟩ : ∃ W, W = (w.alloc (.cells #[.int .i64 3, .int .i64 hh, .int .i64 ot, .int .i64 nn, .string (bs ky), .string (bs up), .string (bs vl)] 74)).alloc (.cells #[.int .i64 0, .int .i64 0, .int .i64 0, .string ⟨#[]⟩, .int .i64 0, .slice none 0 0] 80) := ⟨_, rfl⟩
  obtain ⟨A, HA⟩ : ∃ A : Nat, Hid (A = w.heap.size) := ⟨_, rfl⟩
  obtain ⟨R, HR⟩ : ∃ R : Nat, Hid (R = w.heap.size + 1) := ⟨_, rfl⟩
  have KW : Hid (Kept Nil w W) := by rw [hW]; exact ((Kept.refl _ _).alloc _).alloc _
  have HAW : Hid (W.heap[A]? = some (.cells #[.int .i64 3, .int .i64 hh, .int .i64 ot, .int .i64 nn, .string (bs ky), .string (bs up), .string (bs vl)] 74 (0, 0))) := by rw [hW, HA.out]; exact blk_past (blk_new _ _) _
  have HRW : Hid (W.heap[R]? = some (.cells #[.int .i64 0, .int .i64 0, .int .i64 0, .string ⟨#[]⟩, .int .i64 0, .slice none 0 0] 80 (0, 0))) := by rw [hW, HR.out]; exact blk_new1 w _ _
  have HRB : Hid (w.heap.size ≤ R ∧ R < W.heap.size) := ⟨by rw [HR.out]; omega, lt_of_block HRW.out⟩
  have HXW : Hid (ShX Gs W b hb ch hs aw cw S) := x.kept KW.out
  have p0 : W.cell? ⟨A, 0, none⟩ = some (.int .i64 3) := blk_at HAW.out 0 rfl
  have p1 : W.cell? ⟨A, 1, none⟩ = some (.int .i64 hh) := blk_at HAW.out 1 rfl
  have p3 : W.cell? ⟨A, 3, none⟩ = some (.int .i64 nn) := blk_at HAW.out 3 rfl
  have IH := isHost_any S.n b hb ch _ hh W HXW.out.blk
  have MB := mayBe_any 3 hh ot nn ky up vl W hle
  have hi1 := isHo_iff.1 hh0
  have hn9 := HIn.out.n1.2
  have HI : Hid (i = hh.toNat - 1) := hI
  have hi : i < S.n := by rw [HI.out]; omega
  have hii : (i : Int) < (S.n : Int) := by omega
  have hwr : IntKind.i64.wrap (hh - 1) = (i : Int) := by rw [IntKind.wrap_i64]; have := HI.out; omega
  have HHE : Hid (((i + 1 : Nat) : Int) = hh) := by show _ = _; have := HI.out; omega
  rw [hh0] at IH
  rw [hm] at MB
  have HaE : Hid (a = (answerH hh ⟨3, hh, ot, nn, ky, up, vl⟩ (S.ho i)).1) := ha
  have HTE : Hid (T = putH S i (answerH hh ⟨3, hh, ot, nn, ky, up, vl⟩ (S.ho i)).2) := hT
  clear hle hh0 hm hI ha hT
  clear x inv
  go_enter Try.func27, Try.ntmps27
  go_upto_region 1 with fail
  rw [← hW, ← HR.out, ← HA.out]
  clear hW
  go_wp2_with fail
  go_fit IH
  rintro e w6 ⟨rfl, rfl⟩
  clear IH
  go_wp2_with ((with_reducible refine atLoad 74 ?_); go_must (refine wpList_loadW rfl _ _ rfl _ rfl _ _ _ HAW.out Try.underlying74 rfl Try.sizeSt rfl ?_))
  go_fit MB
  rintro e w7 ⟨rfl, k7⟩
  have HR7 : Hid (w7.heap[R]? = some (.cells #[.int .i64 0, .int .i64 0, .int .i64 0, .string ⟨#[]⟩, .int .i64 0, .slice none 0 0] 80 (0, 0))) := k7.block _ _ HRW.out (fun e => e)
  have HA7 : Hid (w7.heap[A]? = _) := k7.block _ _ HAW.out (fun e => e)
  have HK7 : Hid (Kept Nil w w7) := KW.out.trans k7
  have HX7 : Hid (ShX Gs w7 b hb ch hs aw cw S) := HXW.out.kept k7
  have HRB7 : Hid (w.heap.size ≤ R ∧ R < w7.heap.size) := ⟨HRB.out.1, lt_of_block HR7.out⟩
  clear MB k7 p0 p1 p3
  have s0 : w7.cell? ⟨b, 0, none⟩ = some (.slice (some ⟨hb, 0, none⟩) S.n ch) := blk_at HX7.out.blk 0 rfl
  have r1 : w7.cell? ⟨A, 1, none⟩ = some (.int .i64 hh) := blk_at HA7.out 1 rfl
  have r0 : w7.cell? ⟨hb, i, none⟩ = some (.pointer (some ⟨hs i, 0, none⟩)) := HX7.out.at hi
  have hb7 : b < w7.heap.size := lt_of_block HX7.out.blk
  have hA7 : A < w7.heap.size := lt_of_block HA7.out
  have hh7 : hb < w7.heap.size := World.block_lt_of_cell? w7 _ r0
  go_upto_region 8 with fail
  go_quiet (fail)
  rename Nat => nq
  obtain ⟨V, hV⟩ : ∃ V, V = w7.drewN nq := ⟨_, rfl⟩
  have KV : Hid (Kept Nil w7 V) := by rw [hV]; exact (Kept.refl _ _).drewN _
  rw [← hV]
  clear hV s0 r1 r0 hb7 hA7 hh7
  have HRV : Hid (V.heap[R]? = some (.cells #[.int .i64 0, .int .i64 0, .int .i64 0, .string ⟨#[]⟩, .int .i64 0, .slice none 0 0] 80 (0, 0))) := KV.out.block _ _ HR7.out (fun e => e)
  have HAV : Hid (V.heap[A]? = _) := KV.out.block _ _ HA7.out (fun e => e)
  have HKV : Hid (Kept Nil w V) := HK7.out.trans KV.out
  have HXV : Hid (ShX Gs V b hb ch hs aw cw S) := HX7.out.kept KV.out
  have HRBV : Hid (w.heap.size ≤ R ∧ R < V.heap.size) := ⟨HRB.out.1, lt_of_block HRV.out⟩
  have v0 := blk_at HAV.out 0 rfl
  have AN := answer_any K M (Gs i) (hs i) (i + 1 : Nat) (S.ho i) ⟨3, hh, ot, nn, ky, up, vl⟩ V (HXV.out.ho i hi) (HIn.out.ho i hi) HIn.out.kl hM
  unfold stC at AN
  dsimp only at AN
  rw [HHE.out, ← HaE.out] at AN
  go_wp2_with ((with_reducible refine atLoad 74 ?_); go_must (refine wpList_loadW rfl _ _ rfl _ rfl _ _ _ HAV.out Try.underlying74 rfl Try.sizeSt rfl ?_))
  go_fit AN
  rintro e w8 ⟨rfl, x8, k8⟩
  rw [← HHE.out] at x8
  have HY : Hid (ShPost Gs V b hb ch hs T w8) := by rw [HTE.out, ← HHE.out]; exact HXV.out.called hi x8 k8
  have HR8 : Hid (w8.heap[R]? = some (.cells #[.int .i64 0, .int .i64 0, .int .i64 0, .string ⟨#[]⟩, .int .i64 0, .slice none 0 0] 80 (0, 0))) := HY.out.own HX.out.lt HRB.out.1 HRV.out
  clear AN x8 k8 v0
  go_wp2_with ((with_reducible refine atStore 80 ?_); go_must (refine wpList_storeW rfl _ _ _ rfl _ (anC a) _ _ rfl rfl HR8.out rfl Try.sizeAn rfl (anC_one _) ?_); intro w9 hb9 hk9 hs9)
  refine bodyPost_ret (results_cellW rfl rfl hb9 Try.underlying80 rfl Try.sizeAn rfl) rfl ⟨rfl, ?_⟩
  exact ShPost.done HX.out.lt HKV.out HRBV.out.1 HRBV.out.2 HY.out hk9
set_option maxRecDepth 100000 in
set_option maxHeartbeats 8000000 in
theorem do_other (K : List (List UInt8)) (M : Nat) (Gs : Nat → Nat → Prop) (b hb ch cw : Nat) (hs : Nat → Nat) (aw : Option Addr) (S T : Sd) (kd hh ot nn : Int) (ky up vl : List UInt8) (w : World) (x : ShX Gs w b hb ch hs aw cw S) (inv : Inv K M S) (hle : ky.length ≤ 1000000000000 ∧ up.length ≤ 1000000000000 ∧ vl.length ≤ 1000000000000) (hk : ¬ 6 ≤ kd) (k1 : ¬ kd = 1) (k2 : ¬ kd = 2) (k3 : ¬ kd = 3) (k4 : ¬ kd = 4) (k5 : ¬ kd = 5) (hh0 : isHo S.n hh = true) (hm : mayS ⟨kd, hh, ot, nn, ky, up, vl⟩ = true) (hT : T = S) :
    Calls Try.prog 27 #[.pointer (some ⟨b, 0, none⟩), .agg #[.int .i64 kd, .int .i64 hh, .int .i64 ot, .int .i64 nn, .string (bs ky), .string (bs up), .string (bs vl)]] w fun e w' => e = .returned (.agg (anC an0)) ∧ ShPost Gs w b hb ch hs T w' := by
  have HIn : Hid (Inv K M S) := inv
  have HX : Hid (ShX Gs w b hb ch hs aw cw S) := x
  obtain ⟨W, hW⟩ : ∃ W, W = (w.alloc (.cells #[.int .i64 kd, .int .i64 hh, .int .i64 ot, .int .i64 nn, .string (bs ky), .string (bs up), .string (bs vl)] 74)).alloc (.cells #[.int .i64 0, .int .i64 0, .int .i64 0, .string ⟨#[]⟩, .int .i64 0, .slice none 0 0] 80) := ⟨_, rfl⟩
  obtain ⟨A, HA⟩ : ∃ A : Nat, Hid (A = w.heap.size) := ⟨_, rfl⟩
  obtain ⟨R, HR⟩ : ∃ R : Nat, Hid (R = w.heap.size + 1) := ⟨_, rfl⟩
  have KW : Hid (Kept Nil w W) := by rw [hW]; exact ((Kept.refl _ _).alloc _).alloc _
  have HAW : Hid (W.heap[A]? = some (.cells #[.int .i64 kd, .int .i64 hh, .int .i64 ot, .int .i64 nn, .string (bs ky), .string (bs up), .string (bs vl)] 74 (0, 0))) := by rw [hW, HA.out]; exact blk_past (blk_new _ _) _
  have HRW : Hid (W.heap[R]? = some (.cells #[.int .i64 0, .int .i64 0, .int .i64 0, .string ⟨#[]⟩, .int .i64 0, .slice none 0 0] 80 (0, 0))) := by rw [hW, HR.out]; exact blk_new1 w _ _
  have HRB : Hid (w.heap.size ≤ R ∧ R < W.heap.size) := ⟨by rw [HR.out]; omega, lt_of_block HRW.out⟩
  have HXW : Hid (ShX Gs W b hb ch hs aw cw S) := x.kept KW.out
  have p0 : W.cell? ⟨A, 0, none⟩ = some (.int .i64 kd) := blk_at HAW.out 0 rfl
  have p1 : W.cell? ⟨A, 1, none⟩ = some (.int .i64 hh) := blk_at HAW.out 1 rfl
  have p3 : W.cell? ⟨A, 3, none⟩ = some (.int .i64 nn) := blk_at HAW.out 3 rfl
  have IH := isHost_any S.n b hb ch _ hh W HXW.out.blk
  have MB := mayBe_any kd hh ot nn ky up vl W hle
  have hi1 := isHo_iff.1 hh0
  have hn9 := HIn.out.n1.2
  obtain ⟨i, HI⟩ : ∃ i : Nat, Hid (i = hh.toNat - 1) := ⟨_, rfl⟩
  have hi : i < S.n := by rw [HI.out]; omega
  have hii : (i : Int) < (S.n : Int) := by omega
  have hwr : IntKind.i64.wrap (hh - 1) = (i : Int) := by rw [IntKind.wrap_i64]; have := HI.out; omega
  have HHE : Hid (((i + 1 : Nat) : Int) = hh) := by show _ = _; have := HI.out; omega
  rw [hh0] at IH
  rw [hm] at MB
  rw [hT]
  clear hle hh0 hm hT
  clear x inv
  go_enter Try.func27, Try.ntmps27
  go_upto_region 1 with fail
  rw [← hW, ← HR.out, ← HA.out]
  clear hW
  go_wp2_with fail
  go_fit IH
  rintro e w6 ⟨rfl, rfl⟩
  clear IH
  go_wp2_with ((with_reducible refine atLoad 74 ?_); go_must (refine wpList_loadW rfl _ _ rfl _ rfl _ _ _ HAW.out Try.underlying74 rfl Try.sizeSt rfl ?_))
  go_fit MB
  rintro e w7 ⟨rfl, k7⟩
  have HR7 : Hid (w7.heap[R]? = some (.cells #[.int .i64 0, .int .i64 0, .int .i64 0, .string ⟨#[]⟩, .int .i64 0, .slice none 0 0] 80 (0, 0))) := k7.block _ _ HRW.out (fun e => e)
  have HA7 : Hid (w7.heap[A]? = _) := k7.block _ _ HAW.out (fun e => e)
  have HK7 : Hid (Kept Nil w w7) := KW.out.trans k7
  have HX7 : Hid (ShX Gs w7 b hb ch hs aw cw S) := HXW.out.kept k7
  have HRB7 : Hid (w.heap.size ≤ R ∧ R < w7.heap.size) := ⟨HRB.out.1, lt_of_block HR7.out⟩
  clear MB k7 p0 p1 p3
  have s0 : w7.cell? ⟨b, 0, none⟩ = some (.slice (some ⟨hb, 0, none⟩) S.n ch) := blk_at HX7.out.blk 0 rfl
  have r1 : w7.cell? ⟨A, 1, none⟩ = some (.int .i64 hh) := blk_at HA7.out 1 rfl
  have r0 : w7.cell? ⟨hb, i, none⟩ = some (.pointer (some ⟨hs i, 0, none⟩)) := HX7.out.at hi
  have hb7 : b < w7.heap.size := lt_of_block HX7.out.blk
  have hA7 : A < w7.heap.size := lt_of_block HA7.out
  have hh7 : hb < w7.heap.size := World.block_lt_of_cell? w7 _ r0
  go_upto_region 8 with fail
  go_quiet (fail)
  rename Nat => nq
  obtain ⟨V, hV⟩ : ∃ V, V = w7.drewN nq := ⟨_, rfl⟩
  have KV : Hid (Kept Nil w7 V) := by rw [hV]; exact (Kept.refl _ _).drewN _
  rw [← hV]
  clear hV s0 r1 r0 hb7 hA7 hh7
  have HRV : Hid (V.heap[R]? = some (.cells #[.int .i64 0, .int .i64 0, .int .i64 0, .string ⟨#[]⟩, .int .i64 0, .slice none 0 0] 80 (0, 0))) := KV.out.block _ _ HR7.out (fun e => e)
  have HAV : Hid (V.heap[A]? = _) := KV.out.block _ _ HA7.out (fun e => e)
  have HKV : Hid (Kept Nil w V) := HK7.out.trans KV.out
  have HXV : Hid (ShX Gs V b hb ch hs aw cw S) := HX7.out.kept KV.out
  have HRBV : Hid (w.heap.size ≤ R ∧ R < V.heap.size) := ⟨HRB.out.1, lt_of_block HRV.out⟩
  have v0 := blk_at HAV.out 0 rfl
  go_wp2_with ((with_reducible refine atStore 80 ?_); go_must (refine wpList_storeW rfl _ _ _ rfl _ (anC an0) _ _ rfl rfl HRV.out rfl Try.sizeAn rfl (anC_one _) ?_); intro w9 hb9 hk9 hs9)
  refine bodyPost_ret (results_cellW rfl rfl hb9 Try.underlying80 rfl Try.sizeAn rfl) rfl ⟨rfl, ?_⟩
  exact ShPost.done HX.out.lt HKV.out HRBV.out.1 HRBV.out.2 (ShPost.same HXV.out (Kept.refl _ _)) hk9
set_option maxRecDepth 100000 in
set_option maxHeartbeats 8000000 in
theorem do_send (K : List (List UInt8)) (M : Nat) (Gs : Nat → Nat → Prop) (b hb ch cw : Nat) (hs : Nat → Nat) (aw : Option Addr) (S T : Sd) (hh ot nn : Int) (ky up vl : List UInt8) (w : World) (x : ShX Gs w b hb ch hs aw cw S) (inv : Inv K M S) (hM : M ≤ 1900000) (hle : ky.length ≤ 1000000000000 ∧ up.length ≤ 1000000000000 ∧ vl.length ≤ 1000000000000) (hh0 : isHo S.n hh = true) (hm : mayS ⟨5, hh, ot, nn, ky, up, vl⟩ = true) (i : Nat) (hI : i = hh.toNat - 1) (hT : T = sendS i S) :
    Calls Try.prog 27 #[.pointer (some ⟨b, 0, none⟩), .agg #[.int .i64 5, .int .i64 hh, .int .i64 ot, .int .i64 nn, .string (bs ky), .string (bs up), .string (bs vl)]] w fun e w' => e = .returned (.agg (anC an0)) ∧ ShPost Gs w b hb ch hs T w' := by
  have HIn : Hid (Inv K M S) := inv
  have HX : Hid (ShX Gs w b hb ch hs aw cw S) := x
  obtain ⟨W, hW⟩ : ∃ W, W = (w.alloc (.cells #[.int .i64 5, .int .i64 hh, .int .i64 ot, .int .i64 nn, .string (bs ky), .string (bs up), .string (bs vl)] 74)).alloc (.cells #[.int .i64 0, .int .i64 0, .int .i64 0, .string ⟨#[]⟩, .int .i64 0, .slice none 0 0] 80) := ⟨_, rfl⟩
  obtain ⟨A, HA⟩ : ∃ A : Nat, Hid (A = w.heap.size) := ⟨_, rfl⟩
  obtain ⟨R, HR⟩ : ∃ R : Nat, Hid (R = w.heap.size + 1) := ⟨_, rfl⟩
  have KW : Hid (Kept Nil w W) := by rw [hW]; exact ((Kept.refl _ _).alloc _).alloc _
  have HAW : Hid (W.heap[A]? = some (.cells #[.int .i64 5, .int .i64 hh, .int .i64 ot, .int .i64 nn, .string (bs ky), .string (bs up), .string (bs vl)] 74 (0, 0))) := by rw [hW, HA.out]; exact blk_past (blk_new _ _) _
  have HRW : Hid (W.heap[R]? = some (.cells #[.int .i64 0, .int .i64 0, .int .i64 0, .string ⟨#[]⟩, .int .i64 0, .slice none 0 0] 80 (0, 0))) := by rw [hW, HR.out]; exact blk_new1 w _ _
  have HRB : Hid (w.heap.size ≤ R ∧ R < W.heap.size) := ⟨by rw [HR.out]; omega, lt_of_block HRW.out⟩
  have HXW : Hid (ShX Gs W b hb ch hs aw cw S) := x.kept KW.out
  have p0 : W.cell? ⟨A, 0, none⟩ = some (.int .i64 5) := blk_at HAW.out 0 rfl
  have p1 : W.cell? ⟨A, 1, none⟩ = some (.int .i64 hh) := blk_at HAW.out 1 rfl
  have p3 : W.cell? ⟨A, 3, none⟩ = some (.int .i64 nn) := blk_at HAW.out 3 rfl
  have IH := isHost_any S.n b hb ch _ hh W HXW.out.blk
  have MB := mayBe_any 5 hh ot nn ky up vl W hle
  have hi1 := isHo_iff.1 hh0
  have hn9 := HIn.out.n1.2
  have HI : Hid (i = hh.toNat - 1) := hI
  have hi : i < S.n := by rw [HI.out]; omega
  have hii : (i : Int) < (S.n : Int) := by omega
  have hwr : IntKind.i64.wrap (hh - 1) = (i : Int) := by rw [IntKind.wrap_i64]; have := HI.out; omega
  have HHE : Hid (((i + 1 : Nat) : Int) = hh) := by show _ = _; have := HI.out; omega
  rw [hh0] at IH
  rw [hm] at MB
  have HTE : Hid (T = sendS i S) := hT
  clear hle hh0 hm hI hT
  clear x inv
  go_enter Try.func27, Try.ntmps27
  go_upto_region 1 with fail
  rw [← hW, ← HR.out, ← HA.out]
  clear hW
  go_wp2_with fail
  go_fit IH
  rintro e w6 ⟨rfl, rfl⟩
  clear IH
  go_wp2_with ((with_reducible refine atLoad 74 ?_); go_must (refine wpList_loadW rfl _ _ rfl _ rfl _ _ _ HAW.out Try.underlying74 rfl Try.sizeSt rfl ?_))
  go_fit MB
  rintro e w7 ⟨rfl, k7⟩
  have HR7 : Hid (w7.heap[R]? = some (.cells #[.int .i64 0, .int .i64 0, .int .i64 0, .string ⟨#[]⟩, .int .i64 0, .slice none 0 0] 80 (0, 0))) := k7.block _ _ HRW.out (fun e => e)
  have HA7 : Hid (w7.heap[A]? = _) := k7.block _ _ HAW.out (fun e => e)
  have HK7 : Hid (Kept Nil w w7) := KW.out.trans k7
  have HX7 : Hid (ShX Gs w7 b hb ch hs aw cw S) := HXW.out.kept k7
  have HRB7 : Hid (w.heap.size ≤ R ∧ R < w7.heap.size) := ⟨HRB.out.1, lt_of_block HR7.out⟩
  clear MB k7 p0 p1 p3
  have s0 : w7.cell? ⟨b, 0, none⟩ = some (.slice (some ⟨hb, 0, none⟩) S.n ch) := blk_at HX7.out.blk 0 rfl
  have r1 : w7.cell? ⟨A, 1, none⟩ = some (.int .i64 hh) := blk_at HA7.out 1 rfl
  have r0 : w7.cell? ⟨hb, i, none⟩ = some (.pointer (some ⟨hs i, 0, none⟩)) := HX7.out.at hi
  have hb7 : b < w7.heap.size := lt_of_block HX7.out.blk
  have hA7 : A < w7.heap.size := lt_of_block HA7.out
  have hh7 : hb < w7.heap.size := World.block_lt_of_cell? w7 _ r0
  go_upto_region 8 with fail
  go_quiet (fail)
  rename Nat => nq
  obtain ⟨V, hV⟩ : ∃ V, V = w7.drewN nq := ⟨_, rfl⟩
  have KV : Hid (Kept Nil w7 V) := by rw [hV]; exact (Kept.refl _ _).drewN _
  rw [← hV]
  clear hV s0 r1 r0 hb7 hA7 hh7
  have HRV : Hid (V.heap[R]? = some (.cells #[.int .i64 0, .int .i64 0, .int .i64 0, .string ⟨#[]⟩, .int .i64 0, .slice none 0 0] 80 (0, 0))) := KV.out.block _ _ HR7.out (fun e => e)
  have HAV : Hid (V.heap[A]? = _) := KV.out.block _ _ HA7.out (fun e => e)
  have HKV : Hid (Kept Nil w V) := HK7.out.trans KV.out
  have HXV : Hid (ShX Gs V b hb ch hs aw cw S) := HX7.out.kept KV.out
  have HRBV : Hid (w.heap.size ≤ R ∧ R < V.heap.size) := ⟨HRB.out.1, lt_of_block HRV.out⟩
  have v0 := blk_at HAV.out 0 rfl
  have SE := send_any K M i Gs b hb ch cw hs aw S V HXV.out HIn.out hi hM
  rw [← HTE.out] at SE
  go_wp2_with fail
  go_fit SE
  rintro e w8 ⟨rfl, y8⟩
  have HY : Hid (ShPost Gs V b hb ch hs T w8) := y8
  have HR8 : Hid (w8.heap[R]? = some (.cells #[.int .i64 0, .int .i64 0, .int .i64 0, .string ⟨#[]⟩, .int .i64 0, .slice none 0 0] 80 (0, 0))) := HY.out.own HX.out.lt HRB.out.1 HRV.out
  clear SE y8 v0
  go_wp2_with ((with_reducible refine atStore 80 ?_); go_must (refine wpList_storeW rfl _ _ _ rfl _ (anC an0) _ _ rfl rfl HR8.out rfl Try.sizeAn rfl (anC_one _) ?_); intro w9 hb9 hk9 hs9)
  refine bodyPost_ret (results_cellW rfl rfl hb9 Try.underlying80 rfl Try.sizeAn rfl) rfl ⟨rfl, ?_⟩
  exact ShPost.done HX.out.lt HKV.out HRBV.out.1 HRBV.out.2 HY.out hk9
set_option maxRecDepth 100000 in
set_option maxHeartbeats 8000000 in
theorem do_move0 (K : List (List UInt8)) (M : Nat) (Gs : Nat → Nat → Prop) (b hb ch cw : Nat) (hs : Nat → Nat) (aw : Option Addr) (S T : Sd) (hh ot nn : Int) (ky up vl : List UInt8) (w : World) (x : ShX Gs w b hb ch hs aw cw S) (inv : Inv K M S) (hle : ky.length ≤ 1000000000000 ∧ up.length ≤ 1000000000000 ∧ vl.length ≤ 1000000000000) (hh0 : isHo S.n hh = true) (hm : mayS ⟨4, hh, ot, nn, ky, up, vl⟩ = true) (ho : isHo S.n ot = false) (hT : T = S) :
    Calls Try.prog 27 #[.pointer (some ⟨b, 0, none⟩), .agg #[.int .i64 4, .int .i64 hh, .int .i64 ot, .int .i64 nn, .string (bs ky), .string (bs up), .string (bs vl)]] w fun e w' => e = .returned (.agg (anC (anE 17))) ∧ ShPost Gs w b hb ch hs T w' := by
  have HIn : Hid (Inv K M S) := inv
  have HX : Hid (ShX Gs w b hb ch hs aw cw S) := x
  obtain ⟨W, hW⟩ : ∃ W, W = (w.alloc (.cells #[.int .i64 4, .int .i64 hh, .int .i64 ot, .int .i64 nn, .string (bs ky), .string (bs up), .string (bs vl)] 74)).alloc (.cells #[.int .i64 0, .int .i64 0, .int .i64 0, .string ⟨#[]⟩, .int .i64 0, .slice none 0 0] 80) := ⟨_, rfl⟩
  obtain ⟨A, HA⟩ : ∃ A : Nat, Hid (A = w.heap.size) := ⟨_, rfl⟩
  obtain ⟨R, HR⟩ : ∃ R : Nat, Hid (R = w.heap.size + 1) := ⟨_, rfl⟩
  have KW : Hid (Kept Nil w W) := by rw [hW]; exact ((Kept.refl _ _).alloc _).alloc _
  have HAW : Hid (W.heap[A]? = some (.cells #[.int .i64 4, .int .i64 hh, .int .i64 ot, .int .i64 nn, .string (bs ky), .string (bs up), .string (bs vl)] 74 (0, 0))) := by rw [hW, HA.out]; exact blk_past (blk_new _ _) _
  have HRW : Hid (W.heap[R]? = some (.cells #[.int .i64 0, .int .i64 0, .int .i64 0, .string ⟨#[]⟩, .int .i64 0, .slice none 0 0] 80 (0, 0))) := by rw [hW, HR.out]; exact blk_new1 w _ _
  have HRB : Hid (w.heap.size ≤ R ∧ R < W.heap.size) := ⟨by rw [HR.out]; omega, lt_of_block HRW.out⟩
  have HXW : Hid (ShX Gs W b hb ch hs aw cw S) := x.kept KW.out
  have p0 : W.cell? ⟨A, 0, none⟩ = some (.int .i64 4) := blk_at HAW.out 0 rfl
  have p1 : W.cell? ⟨A, 1, none⟩ = some (.int .i64 hh) := blk_at HAW.out 1 rfl
  have p3 : W.cell? ⟨A, 3, none⟩ = some (.int .i64 nn) := blk_at HAW.out 3 rfl
  have IH := isHost_any S.n b hb ch _ hh W HXW.out.blk
  have MB := mayBe_any 4 hh ot nn ky up vl W hle
  have hi1 := isHo_iff.1 hh0
  have hn9 := HIn.out.n1.2
  obtain ⟨i, HI⟩ : ∃ i : Nat, Hid (i = hh.toNat - 1) := ⟨_, rfl⟩
  have hi : i < S.n := by rw [HI.out]; omega
  have hii : (i : Int) < (S.n : Int) := by omega
  have hwr : IntKind.i64.wrap (hh - 1) = (i : Int) := by rw [IntKind.wrap_i64]; have := HI.out; omega
  have HHE : Hid (((i + 1 : Nat) : Int) = hh) := by show _ = _; have := HI.out; omega
  rw [hh0] at IH
  rw [hm] at MB
  rw [hT]
  clear hle hm hT
  clear x inv
  go_enter Try.func27, Try.ntmps27
  go_upto_region 1 with fail
  rw [← hW, ← HR.out, ← HA.out]
  clear hW
  go_wp2_with fail
  go_fit IH
  rintro e w6 ⟨rfl, rfl⟩
  clear IH
  go_wp2_with ((with_reducible refine atLoad 74 ?_); go_must (refine wpList_loadW rfl _ _ rfl _ rfl _ _ _ HAW.out Try.underlying74 rfl Try.sizeSt rfl ?_))
  go_fit MB
  rintro e w7 ⟨rfl, k7⟩
  have HR7 : Hid (w7.heap[R]? = some (.cells #[.int .i64 0, .int .i64 0, .int .i64 0, .string ⟨#[]⟩, .int .i64 0, .slice none 0 0] 80 (0, 0))) := k7.block _ _ HRW.out (fun e => e)
  have HA7 : Hid (w7.heap[A]? = _) := k7.block _ _ HAW.out (fun e => e)
  have HK7 : Hid (Kept Nil w w7) := KW.out.trans k7
  have HX7 : Hid (ShX Gs w7 b hb ch hs aw cw S) := HXW.out.kept k7
  have HRB7 : Hid (w.heap.size ≤ R ∧ R < w7.heap.size) := ⟨HRB.out.1, lt_of_block HR7.out⟩
  clear MB k7 p0 p1 p3
  have s0 : w7.cell? ⟨b, 0, none⟩ = some (.slice (some ⟨hb, 0, none⟩) S.n ch) := blk_at HX7.out.blk 0 rfl
  have r1 : w7.cell? ⟨A, 1, none⟩ = some (.int .i64 hh) := blk_at HA7.out 1 rfl
  have r0 : w7.cell? ⟨hb, i, none⟩ = some (.pointer (some ⟨hs i, 0, none⟩)) := HX7.out.at hi
  have hb7 : b < w7.heap.size := lt_of_block HX7.out.blk
  have hA7 : A < w7.heap.size := lt_of_block HA7.out
  have hh7 : hb < w7.heap.size := World.block_lt_of_cell? w7 _ r0
  go_upto_region 8 with fail
  go_quiet (fail)
  rename Nat => nq
  obtain ⟨V, hV⟩ : ∃ V, V = w7.drewN nq := ⟨_, rfl⟩
  have KV : Hid (Kept Nil w7 V) := by rw [hV]; exact (Kept.refl _ _).drewN _
  rw [← hV]
  clear hV s0 r1 r0 hb7 hA7 hh7
  have HRV : Hid (V.heap[R]? = some (.cells #[.int .i64 0, .int .i64 0, .int .i64 0, .string ⟨#[]⟩, .int .i64 0, .slice none 0 0] 80 (0, 0))) := KV.out.block _ _ HR7.out (fun e => e)
  have HAV : Hid (V.heap[A]? = _) := KV.out.block _ _ HA7.out (fun e => e)
  have HKV : Hid (Kept Nil w V) := HK7.out.trans KV.out
  have HXV : Hid (ShX Gs V b hb ch hs aw cw S) := HX7.out.kept KV.out
  have HRBV : Hid (w.heap.size ≤ R ∧ R < V.heap.size) := ⟨HRB.out.1, lt_of_block HRV.out⟩
  have v0 := blk_at HAV.out 0 rfl
  have v1 := blk_at HAV.out 1 rfl
  have v2 := blk_at HAV.out 2 rfl
  have IO := isHost_any S.n b hb ch _ ot V HXV.out.blk
  rw [ho] at IO
  clear hh0 ho
  go_wp2_with fail
  go_fit IO
  rintro e w8 ⟨rfl, rfl⟩
  go_wp2_with ((with_reducible refine atStore 80 ?_); go_must (refine wpList_storeW rfl _ _ _ rfl _ (anC (anE 17)) _ _ rfl rfl HRV.out rfl Try.sizeAn rfl (anC_one _) ?_); intro w9 hb9 hk9 hs9)
  refine bodyPost_ret (results_cellW rfl rfl hb9 Try.underlying80 rfl Try.sizeAn rfl) rfl ⟨rfl, ?_⟩
  exact ShPost.done HX.out.lt HKV.out HRBV.out.1 HRBV.out.2 (ShPost.same HXV.out (Kept.refl _ _)) hk9
set_option maxRecDepth 100000 in
set_option maxHeartbeats 8000000 in
theorem do_move1 (K : List (List UInt8)) (M : Nat) (Gs : Nat → Nat → Prop) (b hb ch cw : Nat) (hs : Nat → Nat) (aw : Option Addr) (S T : Sd) (hh nn : Int) (ky up vl : List UInt8) (w : World) (x : ShX Gs w b hb ch hs aw cw S) (inv : Inv K M S) (hle : ky.length ≤ 1000000000000 ∧ up.length ≤ 1000000000000 ∧ vl.length ≤ 1000000000000) (hh0 : isHo S.n hh = true) (hm : mayS ⟨4, hh, hh, nn, ky, up, vl⟩ = true) (hT : T = S) :
    Calls Try.prog 27 #[.pointer (some ⟨b, 0, none⟩), .agg #[.int .i64 4, .int .i64 hh, .int .i64 hh, .int .i64 nn, .string (bs ky), .string (bs up), .string (bs vl)]] w fun e w' => e = .returned (.agg (anC (anE 17))) ∧ ShPost Gs w b hb ch hs T w' := by
  have HIn : Hid (Inv K M S) := inv
  have HX : Hid (ShX Gs w b hb ch hs aw cw S) := x
  obtain ⟨W, hW⟩ : ∃ W, W = (w.alloc (.cells #[.int .i64 4, .int .i64 hh, .int .i64 hh, .int .i64 nn, .string (bs ky), .string (bs up), .string (bs vl)] 74)).alloc (.cells #[.int .i64 0, .int .i64 0, .int .i64 0, .string ⟨#[]⟩, .int .i64 0, .slice none 0 0] 80) := ⟨_, rfl⟩
  obtain ⟨A, HA⟩ : ∃ A : Nat, Hid (A = w.heap.size) := ⟨_, rfl⟩
  obtain ⟨R, HR⟩ : ∃ R : Nat, Hid (R = w.heap.size + 1) := ⟨_, rfl⟩
  have KW : Hid (Kept Nil w W) := by rw [hW]; exact ((Kept.refl _ _).alloc _).alloc _
  have HAW : Hid (W.heap[A]? = some (.cells #[.int .i64 4, .int .i64 hh, .int .i64 hh, .int .i64 nn, .string (bs ky), .string (bs up), .string (bs vl)] 74 (0, 0))) := by rw [hW, HA.out]; exact blk_past (blk_new _ _) _
  have HRW : Hid (W.heap[R]? = some (.cells #[.int .i64 0, .int .i64 0, .int .i64 0, .string ⟨#[]⟩, .int .i64 0, .slice none 0 0] 80 (0, 0))) := by rw [hW, HR.out]; exact blk_new1 w _ _
  have HRB : Hid (w.heap.size ≤ R ∧ R < W.heap.size) := ⟨by rw [HR.out]; omega, lt_of_block HRW.out⟩
  have HXW : Hid (ShX Gs W b hb ch hs aw cw S) := x.kept KW.out
  have p0 : W.cell? ⟨A, 0, none⟩ = some (.int .i64 4) := blk_at HAW.out 0 rfl
  have p1 : W.cell? ⟨A, 1, none⟩ = some (.int .i64 hh) := blk_at HAW.out 1 rfl
  have p3 : W.cell? ⟨A, 3, none⟩ = some (.int .i64 nn) := blk_at HAW.out 3 rfl
  have IH := isHost_any S.n b hb ch _ hh W HXW.out.blk
  have MB := mayBe_any 4 hh hh nn ky up vl W hle
  have hi1 := isHo_iff.1 hh0
  have hn9 := HIn.out.n1.2
  obtain ⟨i, HI⟩ : ∃ i : Nat, Hid (i = hh.toNat - 1) := ⟨_, rfl⟩
  have hi : i < S.n := by rw [HI.out]; omega
  have hii : (i : Int) < (S.n : Int) := by omega
  have hwr : IntKind.i64.wrap (hh - 1) = (i : Int) := by rw [IntKind.wrap_i64]; have := HI.out; omega
  have HHE : Hid (((i + 1 : Nat) : Int) = hh) := by show _ = _; have := HI.out; omega
  rw [hh0] at IH
  rw [hm] at MB
  rw [hT]
  clear hle hm hT
  clear x inv
  go_enter Try.func27, Try.ntmps27
  go_upto_region 1 with fail
  rw [← hW, ← HR.out, ← HA.out]
  clear hW
  go_wp2_with fail
  go_fit IH
  rintro e w6 ⟨rfl, rfl⟩
  clear IH
  go_wp2_with ((with_reducible refine atLoad 74 ?_); go_must (refine wpList_loadW rfl _ _ rfl _ rfl _ _ _ HAW.out Try.underlying74 rfl Try.sizeSt rfl ?_))
  go_fit MB
  rintro e w7 ⟨rfl, k7⟩
  have HR7 : Hid (w7.heap[R]? = some (.cells #[.int .i64 0, .int .i64 0, .int .i64 0, .string ⟨#[]⟩, .int .i64 0, .slice none 0 0] 80 (0, 0))) := k7.block _ _ HRW.out (fun e => e)
  have HA7 : Hid (w7.heap[A]? = _) := k7.block _ _ HAW.out (fun e => e)
  have HK7 : Hid (Kept Nil w w7) := KW.out.trans k7
  have HX7 : Hid (ShX Gs w7 b hb ch hs aw cw S) := HXW.out.kept k7
  have HRB7 : Hid (w.heap.size ≤ R ∧ R < w7.heap.size) := ⟨HRB.out.1, lt_of_block HR7.out⟩
  clear MB k7 p0 p1 p3
  have s0 : w7.cell? ⟨b, 0, none⟩ = some (.slice (some ⟨hb, 0, none⟩) S.n ch) := blk_at HX7.out.blk 0 rfl
  have r1 : w7.cell? ⟨A, 1, none⟩ = some (.int .i64 hh) := blk_at HA7.out 1 rfl
  have r0 : w7.cell? ⟨hb, i, none⟩ = some (.pointer (some ⟨hs i, 0, none⟩)) := HX7.out.at hi
  have hb7 : b < w7.heap.size := lt_of_block HX7.out.blk
  have hA7 : A < w7.heap.size := lt_of_block HA7.out
  have hh7 : hb < w7.heap.size := World.block_lt_of_cell? w7 _ r0
  go_upto_region 8 with fail
  go_quiet (fail)
  rename Nat => nq
  obtain ⟨V, hV⟩ : ∃ V, V = w7.drewN nq := ⟨_, rfl⟩
  have KV : Hid (Kept Nil w7 V) := by rw [hV]; exact (Kept.refl _ _).drewN _
  rw [← hV]
  clear hV s0 r1 r0 hb7 hA7 hh7
  have HRV : Hid (V.heap[R]? = some (.cells #[.int .i64 0, .int .i64 0, .int .i64 0, .string ⟨#[]⟩, .int .i64 0, .slice none 0 0] 80 (0, 0))) := KV.out.block _ _ HR7.out (fun e => e)
  have HAV : Hid (V.heap[A]? = _) := KV.out.block _ _ HA7.out (fun e => e)
  have HKV : Hid (Kept Nil w V) := HK7.out.trans KV.out
  have HXV : Hid (ShX Gs V b hb ch hs aw cw S) := HX7.out.kept KV.out
  have HRBV : Hid (w.heap.size ≤ R ∧ R < V.heap.size) := ⟨HRB.out.1, lt_of_block HRV.out⟩
  have v0 := blk_at HAV.out 0 rfl
  have v1 := blk_at HAV.out 1 rfl
  have v2 := blk_at HAV.out 2 rfl
  have IO := isHost_any S.n b hb ch _ hh V HXV.out.blk
  rw [hh0] at IO
  clear hh0
  go_wp2_with fail
  go_fit IO
  rintro e w8 ⟨rfl, rfl⟩
  go_wp2_with ((with_reducible refine atStore 80 ?_); go_must (refine wpList_storeW rfl _ _ _ rfl _ (anC (anE 17)) _ _ rfl rfl HRV.out rfl Try.sizeAn rfl (anC_one _) ?_); intro w9 hb9 hk9 hs9)
  refine bodyPost_ret (results_cellW rfl rfl hb9 Try.underlying80 rfl Try.sizeAn rfl) rfl ⟨rfl, ?_⟩
  exact ShPost.done HX.out.lt HKV.out HRBV.out.1 HRBV.out.2 (ShPost.same HXV.out (Kept.refl _ _)) hk9
set_option maxRecDepth 100000 in
set_option maxHeartbeats 8000000 in
theorem do_move (K : List (List UInt8)) (M : Nat) (Gs : Nat → Nat → Prop) (b hb ch cw : Nat) (hs : Nat → Nat) (aw : Option Addr) (S T : Sd) (hh ot nn : Int) (ky up vl : List UInt8) (w : World) (x : ShX Gs w b hb ch hs aw cw S) (inv : Inv K M S) (hM : M ≤ 1900000) (hle : ky.length ≤ 1000000000000 ∧ up.length ≤ 1000000000000 ∧ vl.length ≤ 1000000000000) (hh0 : isHo S.n hh = true) (hm : mayS ⟨4, hh, ot, nn, ky, up, vl⟩ = true) (ho : isHo S.n ot = true) (hne : ¬ ot = hh) (er : Int) (i : Nat) (hI : i = hh.toNat - 1) (he : er = (giveHd hh ky up ot.toNat (S.ho i)).1) (hT : T = putH S i (giveHd hh ky up ot.toNat (S.ho i)).2) :
    Calls Try.prog 27 #[.pointer (some ⟨b, 0, none⟩), .agg #[.int .i64 4, .int .i64 hh, .int .i64 ot, .int .i64 nn, .string (bs ky), .string (bs up), .string (bs vl)]] w fun e w' => e = .returned (.agg (anC ⟨er, hh, 0, []⟩)) ∧ ShPost Gs w b hb ch hs T w' := by
  have HIn : Hid (Inv K M S) := inv
  have HX : Hid (ShX Gs w b hb ch hs aw cw S) := x
  obtain ⟨W, hW⟩ : ∃ W, W = (w.alloc (.cells #[.int .i64 4, .int .i64 hh, .int .i64 ot, .int .i64 nn, .string (bs ky), .string (bs up), .string (bs vl)] 74)).alloc (.cells #[.int .i64 0, .int .i64 0, .int .i64 0, .string ⟨#[]⟩, .int .i64 0, .slice none 0 0] 80) := ⟨_, rfl⟩
  obtain ⟨A, HA⟩ : ∃ A : Nat, Hid (A = w.heap.size) := ⟨_, rfl⟩
  obtain ⟨R, HR⟩ : ∃ R : Nat, Hid (R = w.heap.size + 1) := ⟨_, rfl⟩
  have KW : Hid (Kept Nil w W) := by rw [hW]; exact ((Kept.refl _ _).alloc _).alloc _
  have HAW : Hid (W.heap[A]? = some (.cells #[.int .i64 4, .int .i64 hh, .int .i64 ot, .int .i64 nn, .string (bs ky), .string (bs up), .string (bs vl)] 74 (0, 0))) := by rw [hW, HA.out]; exact blk_past (blk_new _ _) _
  have HRW : Hid (W.heap[R]? = some (.cells #[.int .i64 0, .int .i64 0, .int .i64 0, .string ⟨#[]⟩, .int .i64 0, .slice none 0 0] 80 (0, 0))) := by rw [hW, HR.out]; exact blk_new1 w _ _
  have HRB : Hid (w.heap.size ≤ R ∧ R < W.heap.size) := ⟨by rw [HR.out]; omega, lt_of_block HRW.out⟩
  have HXW : Hid (ShX Gs W b hb ch hs aw cw S) := x.kept KW.out
  have p0 : W.cell? ⟨A, 0, none⟩ = some (.int .i64 4) := blk_at HAW.out 0 rfl
  have p1 : W.cell? ⟨A, 1, none⟩ = some (.int .i64 hh) := blk_at HAW.out 1 rfl
  have p3 : W.cell? ⟨A, 3, none⟩ = some (.int .i64 nn) := blk_at HAW.out 3 rfl
  have IH := isHost_any S.n b hb ch _ hh W HXW.out.blk
  have MB := mayBe_any 4 hh ot nn ky up vl W hle
  have hi1 := isHo_iff.1 hh0
  have hn9 := HIn.out.n1.2
  have HI : Hid (i = hh.toNat - 1) := hI
  have hi : i < S.n := by rw [HI.out]; omega
  have hii : (i : Int) < (S.n : Int) := by omega
  have hwr : IntKind.i64.wrap (hh - 1) = (i : Int) := by rw [IntKind.wrap_i64]; have := HI.out; omega
  have HHE : Hid (((i + 1 : Nat) : Int) = hh) := by show _ = _; have := HI.out; omega
  rw [hh0] at IH
  rw [hm] at MB
  have HEE : Hid (er = (giveHd hh ky up ot.toNat (S.ho i)).1) := he
  have HTE : Hid (T = putH S i (giveHd hh ky up ot.toNat (S.ho i)).2) := hT
  have hot := isHo_iff.1 ho
  obtain ⟨d, HD⟩ : ∃ d, Hid (d = ot.toNat) := ⟨_, rfl⟩
  have HDO : Hid (((d : Nat) : Int) = ot) := by show _ = _; have := HD.out; omega
  have hd9 : d < 10 := by have := HD.out; omega
  have HOT : Hid (isOth hh ot = true) := by
    show isOth hh ot = true
    unfold isOth
    rw [nd_of hn9 hot, decide_eq_false hne]
    rfl
  have hml : ky.length ≤ 16 ∧ up.length ≤ 16 := by
    unfold mayS at hm
    simp only [Bool.and_eq_true, decide_eq_true_eq] at hm
    exact ⟨hm.2.1, hm.2.2.1⟩
  have HML : Hid (ky.length ≤ 16 ∧ up.length ≤ 16) := hml
  have HO1 : Hid (isHo S.n ot = true) := ho
  clear hle hh0 hm hI hT he ho hot hml
  clear x inv
  go_enter Try.func27, Try.ntmps27
  go_upto_region 1 with fail
  rw [← hW, ← HR.out, ← HA.out]
  clear hW
  go_wp2_with fail
  go_fit IH
  rintro e w6 ⟨rfl, rfl⟩
  clear IH
  go_wp2_with ((with_reducible refine atLoad 74 ?_); go_must (refine wpList_loadW rfl _ _ rfl _ rfl _ _ _ HAW.out Try.underlying74 rfl Try.sizeSt rfl ?_))
  go_fit MB
  rintro e w7 ⟨rfl, k7⟩
  have HR7 : Hid (w7.heap[R]? = some (.cells #[.int .i64 0, .int .i64 0, .int .i64 0, .string ⟨#[]⟩, .int .i64 0, .slice none 0 0] 80 (0, 0))) := k7.block _ _ HRW.out (fun e => e)
  have HA7 : Hid (w7.heap[A]? = _) := k7.block _ _ HAW.out (fun e => e)
  have HK7 : Hid (Kept Nil w w7) := KW.out.trans k7
  have HX7 : Hid (ShX Gs w7 b hb ch hs aw cw S) := HXW.out.kept k7
  have HRB7 : Hid (w.heap.size ≤ R ∧ R < w7.heap.size) := ⟨HRB.out.1, lt_of_block HR7.out⟩
  clear MB k7 p0 p1 p3
  have s0 : w7.cell? ⟨b, 0, none⟩ = some (.slice (some ⟨hb, 0, none⟩) S.n ch) := blk_at HX7.out.blk 0 rfl
  have r1 : w7.cell? ⟨A, 1, none⟩ = some (.int .i64 hh) := blk_at HA7.out 1 rfl
  have r0 : w7.cell? ⟨hb, i, none⟩ = some (.pointer (some ⟨hs i, 0, none⟩)) := HX7.out.at hi
  have hb7 : b < w7.heap.size := lt_of_block HX7.out.blk
  have hA7 : A < w7.heap.size := lt_of_block HA7.out
  have hh7 : hb < w7.heap.size := World.block_lt_of_cell? w7 _ r0
  go_upto_region 8 with fail
  go_quiet (fail)
  rename Nat => nq
  obtain ⟨V, hV⟩ : ∃ V, V = w7.drewN nq := ⟨_, rfl⟩
  have KV : Hid (Kept Nil w7 V) := by rw [hV]; exact (Kept.refl _ _).drewN _
  rw [← hV]
  clear hV s0 r1 r0 hb7 hA7 hh7
  have HRV : Hid (V.heap[R]? = some (.cells #[.int .i64 0, .int .i64 0, .int .i64 0, .string ⟨#[]⟩, .int .i64 0, .slice none 0 0] 80 (0, 0))) := KV.out.block _ _ HR7.out (fun e => e)
  have HAV : Hid (V.heap[A]? = _) := KV.out.block _ _ HA7.out (fun e => e)
  have HKV : Hid (Kept Nil w V) := HK7.out.trans KV.out
  have HXV : Hid (ShX Gs V b hb ch hs aw cw S) := HX7.out.kept KV.out
  have HRBV : Hid (w.heap.size ≤ R ∧ R < V.heap.size) := ⟨HRB.out.1, lt_of_block HRV.out⟩
  have v0 := blk_at HAV.out 0 rfl
  have v1 := blk_at HAV.out 1 rfl
  have v2 := blk_at HAV.out 2 rfl
  have v4 := blk_at HAV.out 4 rfl
  have v5 := blk_at HAV.out 5 rfl
  have hAV : A < V.heap.size := lt_of_block HAV.out
  have IO := isHost_any S.n b hb ch _ ot V HXV.out.blk
  rw [HO1.out] at IO
  have GI := give_any K M d (Gs i) (hs i) (i + 1 : Nat) (S.ho i) ky up V.drew ((HXV.out.ho i hi).keptX (Kept.refl _ _ : Kept Nil V V).drew (fun _ _ _ e => e)) (HIn.out.ho i hi) HIn.out.kl hM HML.out.1 HML.out.2 hd9 (by rw [HHE.out, HDO.out]; exact HOT.out)
  rw [HHE.out, HDO.out, HD.out, ← HEE.out] at GI
  go_wp2_with fail
  go_fit IO
  rintro e w8 ⟨rfl, rfl⟩
  clear IO
  go_upto_region 17 with fail
  go_region_with (go_at_call 40; go_must (go_fit GI); rintro e w9 ⟨rfl, x9, k9⟩; have HY : Hid (ShPost Gs w8 b hb ch hs T w9) := (by rw [← HHE.out] at x9; rw [HTE.out, ← HHE.out]; exact HXV.out.called hi (by rw [HHE.out] at x9 ⊢; exact x9) ((Kept.refl _ _).drew.trans k9)); have HR9 : Hid (w9.heap[R]? = some (.cells #[.int .i64 0, .int .i64 0, .int .i64 0, .string ⟨#[]⟩, .int .i64 0, .slice none 0 0] 80 (0, 0))) := HY.out.own HX.out.lt HRB.out.1 HRV.out; have HA9 := HY.out.own HX.out.lt (Nat.le_of_eq HA.out.symm) HAV.out; have t1 := blk_at HA9 1 rfl; have u0 := blk_at HR9.out 0 rfl; have u1 := blk_at HR9.out 1 rfl; have u2 := blk_at HR9.out 2 rfl; have u3 := blk_at HR9.out 3 rfl; have u4 := blk_at HR9.out 4 rfl; have u5 := blk_at HR9.out 5 rfl; have z0 := blk_free HR9.out 0; have z1 := blk_free HR9.out 1; have z2 := blk_free HR9.out 2; have z3 := blk_free HR9.out 3; have z4 := blk_free HR9.out 4; have z5 := blk_free HR9.out 5; clear x9 k9)
  all_goals
    go_wp2
    have hX : ∀ o, w9.heap[R]? = some o → One R R o := fun _ _ => rfl
    refine bodyPost_ret (results_cellW rfl rfl (blk_set (blk_set (blk_set (blk_set (blk_set (blk_set HR9.out 0 _) 1 _) 2 _) 3 _) 4 _) 5 _) Try.underlying80 rfl Try.sizeAn rfl) rfl ⟨rfl, ?_⟩
    exact ShPost.done HX.out.lt HKV.out HRBV.out.1 HRBV.out.2 HY.out ((((((Kept.refl (One R) w9).setT hX _ _).setT hX _ _).setT hX _ _).setT hX _ _).setT hX _ _ |>.setT hX _ _)
theorem do_any (K : List (List UInt8)) (M : Nat) (Gs : Nat → Nat → Prop) (b hb ch cw : Nat) (hs : Nat → Nat) (aw : Option Addr) (S : Sd) (s : Sp) (w : World) (x : ShX Gs w b hb ch hs aw cw S) (inv : Inv K M S) (hM : M ≤ 1900000) (hle : s.ky.length ≤ 1000000000000 ∧ s.up.length ≤ 1000000000000 ∧ s.vl.length ≤ 1000000000000) :
    Calls Try.prog 27 #[.pointer (some ⟨b, 0, none⟩), .agg (stC s)] w fun e w' => e = .returned (.agg (anC (doS s S).1)) ∧ ShPost Gs w b hb ch hs (doS s S).2 w' := by
  obtain ⟨kd, hh, ot, nn, ky, up, vl⟩ := s
  unfold stC doS
  dsimp only
  by_cases h6 : 6 ≤ kd
  · rw [if_pos h6]
    exact do_carry K M Gs b hb ch cw hs aw S _ kd hh ot nn ky up vl w x inv hM h6 rfl
  · rw [if_neg h6]
    cases hh0 : isHo S.n hh with
    | false =>
      rw [if_pos rfl]
      exact do_nohost K M Gs b hb ch cw hs aw S _ kd hh ot nn ky up vl w x inv h6 hh0 rfl
    | true =>
      rw [if_neg (by decide)]
      cases hm : mayS ⟨kd, hh, ot, nn, ky, up, vl⟩ with
      | false =>
        rw [if_pos rfl]
        exact do_may K M Gs b hb ch cw hs aw S _ kd hh ot nn ky up vl w x inv hle h6 hh0 hm rfl
      | true =>
        rw [if_neg (by decide)]
        by_cases k1 : kd = 1
        · subst k1
          rw [if_pos ⟨by decide, by decide⟩]
          exact do_answer1 K M Gs b hb ch cw hs aw S _ hh ot nn ky up vl w x inv hM hle hh0 hm _ _ rfl rfl rfl
        · by_cases k2 : kd = 2
          · subst k2
            rw [if_pos ⟨by decide, by decide⟩]
            exact do_answer2 K M Gs b hb ch cw hs aw S _ hh ot nn ky up vl w x inv hM hle hh0 hm _ _ rfl rfl rfl
          · by_cases k3 : kd = 3
            · subst k3
              rw [if_pos ⟨by decide, by decide⟩]
              exact do_answer3 K M Gs b hb ch cw hs aw S _ hh ot nn ky up vl w x inv hM hle hh0 hm _ _ rfl rfl rfl
            · rw [if_neg (by omega)]
              by_cases k4 : kd = 4
              · subst k4
                rw [if_pos rfl]
                cases ho : isHo S.n ot with
                | false =>
                  rw [if_pos (.inl rfl)]
                  exact do_move0 K M Gs b hb ch cw hs aw S _ hh ot nn ky up vl w x inv hle hh0 hm ho rfl
                | true =>
                  by_cases hne : ot = hh
                  · subst hne
                    rw [if_pos (.inr rfl)]
                    exact do_move1 K M Gs b hb ch cw hs aw S _ ot nn ky up vl w x inv hle hh0 hm rfl
                  · rw [if_neg (by rintro (e | e); cases e; exact hne e)]
                    exact do_move K M Gs b hb ch cw hs aw S _ hh ot nn ky up vl w x inv hM hle hh0 hm ho hne _ _ rfl rfl rfl
              · rw [if_neg k4]
                by_cases k5 : kd = 5
                · subst k5
                  rw [if_pos rfl]
                  exact do_send K M Gs b hb ch cw hs aw S _ hh ot nn ky up vl w x inv hM hle hh0 hm _ rfl rfl
                · rw [if_neg k5]
                  exact do_other K M Gs b hb ch cw hs aw S _ kd hh ot nn ky up vl w x inv hle h6 k1 k2 k3 k4 k5 hh0 hm rfl
end Go.Proofs.Ytpfgnhockfofhaa
