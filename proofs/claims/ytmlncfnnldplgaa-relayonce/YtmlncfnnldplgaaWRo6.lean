/-
  RelayOnce: the law's comes.
-/
import Derived.Test.YtmlncfnnldplgaaWRo5
namespace Go.Proofs.Ytmlncfnnldplgaa
open Go.RowKit

theorem recv_pair (B : Nat → Prop) (b i j : Nat) (os : Nat → Oh) (ao : Nat → Option Addr) (cs : Nat → Nat) (p : Pk) (w : World) (h : Rl B w b ((j + 1 : Nat) : Int) os ao cs) (hi : i < 3) (hij : i ≠ j) (hfr : p.fr = (i : Int) + 1) (hds : p.ds = (j : Int) + 1) (h3 : 1 ≤ p.nu) (hnu : p.nu ≤ 9223372036854775807) (hf : ∀ k, k < 10 → (os k).wt.length ≤ 16 ∧ (os k).ak ≤ 9000000000000000000 ∧ (os k).cm ≤ 9000000000000000000) :
    Calls Try.prog 11 #[.pointer (some ⟨b, 0, none⟩), pkV p] w fun e w' => ∃ a1 c1 a2 c2, e = .returned (.tuple #[.slice a1 (rcvC (os (i + 1)) p).length c1, .slice a2 (rcvA ((j + 1 : Nat) : Int) (os (i + 1)) p).length c2]) ∧ OwnPc w.heap.size w' a1 c1 (rcvC (os (i + 1)) p) ∧ OwnPk w.heap.size w' a2 c2 (rcvA ((j + 1 : Nat) : Int) (os (i + 1)) p) ∧ (∃ ao' cs', Rl B w' b ((j + 1 : Nat) : Int) (upd os (i + 1) (rcvO (os (i + 1)) p)) ao' cs') ∧ Kept (TX B b) w w' := by
  have hg : goodP ((j + 1 : Nat) : Int) p = true := by
    unfold goodP isOth isNd
    simp only [Bool.and_eq_true, decide_eq_true_eq, Bool.not_eq_true', decide_eq_false_iff_not]
    omega
  have ht : p.fr.toNat = i + 1 := by omega
  refine (receive_any B b _ os ao cs p w h hnu hf).mono ?_
  rintro e w' ⟨⟨a1, c1, a2, c2, h1, h2, h3⟩, h4, h5⟩
  rw [hg, if_pos rfl, ht] at h2 h3 h4
  rw [hg, if_pos rfl, if_pos rfl, ht] at h1
  exact ⟨a1, c1, a2, c2, h1, h2, h3, h4, h5⟩
/-- A block of one type is written: rows of another stay. -/
theorem own_setTy {B size n b i : Nat} {e t : TypeId} {w : World} {v u : Value} {xs : List Value} {cells : Array Value} (hb : w.heap[b]? = some (.cells cells t (0, 0))) (ho : w.ownsRow B e size v n xs) (he : e ≠ t) : (w.setCell ⟨b, i, none⟩ u).ownsRow B e size v n xs := own_setB ho (fun eb => by
  rcases ho.2 with ⟨e1, _⟩ | ⟨g, _, _, e1, _, hb2, _⟩
  · rw [e1] at eb; simp [Value.ownBlock] at eb
  · rw [e1] at eb
    have e2 : g = b := by simpa [Value.ownBlock] using eb
    rw [e2, hb] at hb2
    simp at hb2
    exact he hb2.2.symm) _ _
theorem rcvC_one (o : Oh) (p : Pk) : (rcvC o p).length ≤ 1 ∧ ∀ x ∈ rcvC o p, x.fr = p.fr := by
  unfold rcvC
  split
  · exact ⟨by simp, fun x hx => by cases hx⟩
  · split
    · exact ⟨by simp, fun x hx => by rw [List.mem_singleton] at hx; subst hx; rfl⟩
    · exact ⟨by simp, fun x hx => by cases hx⟩
theorem rcvA_one (id : Int) (o : Oh) (p : Pk) : (rcvA id o p).length ≤ 1 := by
  unfold rcvA
  split
  · simp
  · split <;> simp
theorem TkI.fits {T : Tk} (h : TkI T) {j : Nat} (hj : j < 3) (hz : ∀ k, (T.sn k).length ≤ 1000000) : ∀ k, k < 10 → (T.os j k).wt.length ≤ 16 ∧ (T.os j k).ak ≤ 9000000000000000000 ∧ (T.os j k).cm ≤ 9000000000000000000 := fun k hk => by
  by_cases hx : k = 0 ∨ 3 < k ∨ k = j + 1
  · rw [h.ot j k hj hk hx]; unfold oh0; simp
  · obtain ⟨i, rfl⟩ : ∃ i, k = i + 1 := ⟨k - 1, by omega⟩
    have h1 := h.pr j i hj (by omega) (by omega)
    have h2 := h.pr i j (by omega) hj (by omega)
    have l1 := h.le (4 * j + i) (by omega)
    have l2 := h.le (4 * i + j) (by omega)
    have z1 := hz (4 * j + i)
    have z2 := hz (4 * i + j)
    exact ⟨h1.2.2.2, by omega, by omega⟩
set_option maxRecDepth 100000 in
set_option maxHeartbeats 8000000 in
theorem tcomes_any (n0 b i j : Nat) (T : Tk) (p : Pk) (w : World) (h : TkAt n0 w b T) (I : TkI T) (hi : i < 3) (hj : j < 3) (hij : i ≠ j) (hfr : p.fr = (i : Int) + 1) (hds : p.ds = (j : Int) + 1) (h3 : 1 ≤ p.nu) (hnu : p.nu ≤ 1000000) (hz : ∀ k, (T.sn k).length ≤ 1000000) (hzw : T.way.length ≤ 4000000) :
    Calls Try.prog 21 #[.pointer (some ⟨b, 0, none⟩), pkV p] w fun e w' => e = .returned (.bool true) ∧ TkAt n0 w' b (T.come i j p) ∧ Kept (Ge n0) w w' := by
  obtain ⟨M0, hM⟩ := h
  have HSz0 : Hid (n0 ≤ w.heap.size) := hM.size
  obtain ⟨W, hW⟩ : ∃ W, W = w.alloc (.cells #[.int .i64 p.fr, .int .i64 p.ds, .int .i64 p.nu, .bool p.ak, .string (bs p.bd)] 34) := ⟨_, rfl⟩
  obtain ⟨A, HAe⟩ : ∃ A, Hid (A = w.heap.size) := ⟨_, rfl⟩
  have KW : Hid (Kept Nil w W) := by rw [hW]; exact (Kept.refl _ _).alloc _
  have HAW : Hid (W.heap[A]? = some (.cells #[.int .i64 p.fr, .int .i64 p.ds, .int .i64 p.nu, .bool p.ak, .string (bs p.bd)] 34 (0, 0))) := by rw [hW, HAe.out]; exact blk_new _ _
  have HM : Hid (TkM n0 W b T M0) := hM.kept KW.out
  have HI : Hid (TkI T) := I
  have HFr : Hid (p.fr = (i : Int) + 1) := hfr
  have HDs : Hid (p.ds = (j : Int) + 1) := hds
  have q0 : W.cell? ⟨A, 0, none⟩ = some (.int .i64 p.fr) := blk_at HAW.out 0 rfl
  have q1 : W.cell? ⟨A, 1, none⟩ = some (.int .i64 p.ds) := blk_at HAW.out 1 rfl
  have q2 : W.cell? ⟨A, 2, none⟩ = some (.int .i64 p.nu) := blk_at HAW.out 2 rfl
  have q3 : W.cell? ⟨A, 3, none⟩ = some (.bool p.ak) := blk_at HAW.out 3 rfl
  have q4 : W.cell? ⟨A, 4, none⟩ = some (.string (bs p.bd)) := blk_at HAW.out 4 rfl
  have RC := recv_pair _ _ i j _ _ _ p W.drew ((HM.out.rl j hj).kept (Kept.refl _ _).drew) hi hij hfr hds h3 (by omega) (I.fits hj hz)
  unfold pkV at RC ⊢
  obtain ⟨r0, -, -, -, -, -, rh⟩ := HM.out.reads
  have r1 := rh j hj
  have hjh : (j : Int) < 3 := by omega
  have f1 : ¬ p.fr < 1 := by omega
  have f2 : ¬ p.fr > 3 := by omega
  have f3 : ¬ p.ds < 1 := by omega
  have f4 : ¬ p.ds > 3 := by omega
  have f5 : p.fr - 1 = (i : Int) := by omega
  have f6 : p.ds - 1 = (j : Int) := by omega
  have hw1 : IntKind.i64.wrap (p.ds - 1) = (j : Int) := by rw [f6]; exact IntWalk.i64_in _ (by omega)
  have hw2 : IntKind.i64.wrap (j : Int) = (j : Int) := IntWalk.i64_in _ (by omega)
  have hhl := HM.out.hl
  clear hM I rh hfr hds
  go_enter Try.func21, Try.ntmps21
  go_upto_region 1 with fail
  rw [← hW, ← HAe.out]
  clear hW
  go_upto_region 3 with fail
  obtain ⟨o, HOo⟩ : ∃ o, Hid (o = T.os j (i + 1)) := ⟨_, rfl⟩
  obtain ⟨lc, HLc⟩ : ∃ l, Hid (l = rcvC o p) := ⟨_, rfl⟩
  obtain ⟨la, HLa⟩ : ∃ l, Hid (l = rcvA ((j + 1 : Nat) : Int) o p) := ⟨_, rfl⟩
  obtain ⟨T1, HT1⟩ : ∃ t : Tk, Hid (t = { T with os := updO T.os j (i + 1) (rcvO o p) }) := ⟨_, rfl⟩
  rw [← HOo.out, ← HLc.out, ← HLa.out] at RC
  have HNn : Hid (n0 ≤ A) := by rw [HAe.out]; exact HSz0.out
  go_cut [5, 6] (fun x y wc => ∃ a1 c1 a2 c2, x = .slice a1 lc.length c1 ∧ y = .slice a2 la.length c2 ∧ Hid (OwnPc W.heap.size wc a1 c1 lc) ∧ Hid (OwnPk W.heap.size wc a2 c2 la) ∧ Hid (∃ M1, TkM n0 wc b T1 M1) ∧ Hid (Kept (Ge n0) w wc) ∧ Hid (wc.heap[A]? = some (.cells #[.int .i64 p.fr, .int .i64 p.ds, .int .i64 p.nu, .bool p.ak, .string (bs p.bd)] 34 (0, 0))))
  case first =>
    go_region_with (go_at_call 11; go_must (go_fit RC); rintro e w2 ⟨a1, c1, a2, c2, rfl, o1, o2, ⟨ax', cx', x2⟩, k2⟩; have HC2 : Hid (OwnPc W.heap.size w2 a1 c1 lc) := o1; have HP2 : Hid (OwnPk W.heap.size w2 a2 c2 la) := o2; have HM2 : Hid (∃ M1, TkM n0 w2 b T1 M1) := (by rw [HT1.out]; exact ⟨_, (HM.out.kept (Kept.refl _ _).drew).relay hj k2 (x2.up (fun _ h => .inl h))⟩); have K2 : Hid (Kept (Ge n0) w w2) := ((KW.out.mono (fun _ _ x => x.elim)).drew).trans (k2.mono (tx_ge HM.out hj)); have HA2 : Hid (w2.heap[A]? = some (.cells #[.int .i64 p.fr, .int .i64 p.ds, .int .i64 p.nu, .bool p.ak, .string (bs p.bd)] 34 (0, 0))) := k2.block _ _ HAW.out (by rintro (⟨_, _, e⟩ | ⟨_, _, e⟩) <;> simp at e); clear o1 o2 x2 k2)
    all_goals
      go_wp2
      go_meet
      exact ⟨a1, c1, a2, c2, rfl, rfl, HC2.out, HP2.out, HM2.out, K2.out, HA2.out⟩
  case rest =>
    obtain ⟨a1, c1, a2, c2, rfl, rfl, HC2, HP2, HM2, K2, HA2⟩ := hcut
    rename World => w2
    clear RC q0 q1 q2 q3 q4 r0 r1 hw1
    obtain ⟨q, Hq⟩ : ∃ q, Hid (q = 4 * i + j) := ⟨_, rfl⟩
    obtain ⟨r, Hr⟩ : ∃ q, Hid (q = 4 * j + i) := ⟨_, rfl⟩
    have e1 : 4 * (i : Int) + p.ds - 1 = (q : Int) := by have := Hq.out; have := HDs.out; omega
    have e2 : 4 * (j : Int) + p.fr - 1 = (r : Int) := by have := Hr.out; have := HFr.out; omega
    have hqn : q < 16 := by have := Hq.out; omega
    have hrn : r < 16 := by have := Hr.out; omega
    have hqi : (q : Int) < 16 := by omega
    have hri : (r : Int) < 16 := by omega
    have hii : (i : Int) < 3 := by omega
    obtain ⟨xs, Hxs⟩ : ∃ l, Hid (l = T.cm q) := ⟨_, rfl⟩
    have HXl : Hid (xs.length ≤ 1000000) := by have h1 := HI.out.le q hqn; have h2 := hz q; rw [← Hxs.out] at h1; show _ ≤ _; omega
    have hlc1 : lc.length ≤ 1 := by rw [HLc.out]; exact (rcvC_one _ _).1
    have HLf : Hid (∀ x ∈ lc, x.fr = p.fr) := by rw [HLc.out]; exact (rcvC_one _ _).2
    have hla1 : la.length ≤ 1 := by rw [HLa.out]; exact rcvA_one _ _ _
    obtain ⟨j0, hj9, hy0, hy1, hy2⟩ := info_parts Try.infoTd
    go_upto_block 0 with fail
    go_cut [] (fun wc => Hid (OwnPk W.heap.size wc a2 c2 la) ∧ Hid (∃ M1, TkM n0 wc b { T1 with cm := upd T1.cm q (xs ++ lc.map Pc.bd) } M1) ∧ Hid (Kept (Ge n0) w wc) ∧ Hid (wc.heap[A]? = some (.cells #[.int .i64 p.fr, .int .i64 p.ds, .int .i64 p.nu, .bool p.ak, .string (bs p.bd)] 34 (0, 0))))
    case first =>
      go_wp2_with fail
      go_loopw [7] (fun u wr => ∃ n : Nat, n ≤ lc.length ∧ u = .int .i64 n ∧ Hid (OwnPc W.heap.size wr a1 c1 lc) ∧ Hid (OwnPk W.heap.size wr a2 c2 la) ∧ Hid (∃ M1, TkM n0 wr b { T1 with cm := upd T1.cm q (xs ++ (lc.take n).map Pc.bd) } M1) ∧ Hid (Kept (Ge n0) w wr) ∧ Hid (wr.heap[A]? = some (.cells #[.int .i64 p.fr, .int .i64 p.ds, .int .i64 p.nu, .bool p.ak, .string (bs p.bd)] 34 (0, 0)))) (fun u _ => lc.length - (intOf u).toNat)
      case atStart => exact ⟨0, Nat.zero_le _, rfl, HC2.out, HP2.out, by rw [List.take_zero, List.map_nil, List.append_nil, show xs = T1.cm q by rw [Hxs.out, HT1.out], upd_id]; exact HM2.out, K2.out, HA2.out⟩
      case round =>
        obtain ⟨n, hn, rfl, HCr, HPr, HMr, HKr, HAr⟩ := hrel
        clear HC2 HP2 HM2 K2 HA2
        by_cases hlt : n < lc.length
        · have hni : (n : Int) < lc.length := by omega
          obtain ⟨M1, hM1⟩ := HMr.out
          have HM1 : Hid (TkM n0 wr b { T1 with cm := upd T1.cm q (xs ++ (lc.take n).map Pc.bd) } M1) := hM1
          obtain ⟨ys, HYs⟩ : ∃ l, Hid (l = xs ++ (lc.take n).map Pc.bd) := ⟨_, rfl⟩
          have HYl : Hid (ys.length ≤ 1000001) := by have := HXl.out; rw [HYs.out]; show _ ≤ _; rw [List.length_append, List.length_map, List.length_take]; omega
          obtain ⟨g1, eg1, -, -, d0, d1, -, -⟩ := HCr.out.cells hlt
          subst eg1
          have HV : Hid (lc[n].fr = p.fr) := HLf.out _ (List.getElem_mem _)
          rw [HV.out] at d0
          obtain ⟨v, Hv⟩ : ∃ v, Hid (v = lc[n].bd) := ⟨lc[n].bd, (rfl : lc[n].bd = lc[n].bd)⟩
          rw [← Hv.out] at d1
          have s0 : wr.cell? ⟨A, 0, none⟩ = some (.int .i64 p.fr) := blk_at HAr.out 0 rfl
          have s1 : wr.cell? ⟨A, 1, none⟩ = some (.int .i64 p.ds) := blk_at HAr.out 1 rfl
          have hbe : (p.fr == p.fr) = true := by simp
          have hbn : (p.fr != p.fr) = false := by simp
          go_upto_region 7 with fail
          go_cut [55] (fun x wc => x = .bool false ∧ Hid (Kept Nil wr wc))
          case first =>
            go_quiet (fail)
            go_wp2
            go_meet
            exact ⟨by first | rfl | simp, (Kept.refl _ _).drewN _⟩
          case rest =>
            obtain ⟨rfl, KC⟩ := hcut
            rename World => w3
            have t0 : w3.cell? ⟨A, 0, none⟩ = some (.int .i64 p.fr) := cell_kept KC.out (fun _ x => x) s0
            have t1 : w3.cell? ⟨A, 1, none⟩ = some (.int .i64 p.ds) := cell_kept KC.out (fun _ x => x) s1
            have u1 := cell_kept KC.out (fun _ x => x) d1
            have HM3 : Hid (TkM n0 w3 b { T1 with cm := upd T1.cm q ys } M1) := by rw [HYs.out]; exact HM1.out.kept KC.out
            obtain ⟨-, -, -, rcA, -, rfA, -⟩ := HM3.out.reads
            have rc := rcA q hqn
            have rf : w3.frozen? ⟨b, 18 + q, none⟩ = false := rfA _
            clear rcA rfA
            obtain ⟨a0, Ha0⟩ : ∃ a, Hid (a = M1.ca q) := ⟨_, rfl⟩
            obtain ⟨c0, Hc0⟩ : ∃ a, Hid (a = M1.cc q) := ⟨_, rfl⟩
            dsimp only at rc
            rw [upd_self, ← Ha0.out, ← Hc0.out] at rc
            have HO3 : Hid (w3.ownsRow n0 9 1 (.slice a0 ys.length c0) ys.length (tdCells ys)) := by have hr := HM3.out.cr q hqn; dsimp only at hr; rw [upd_self] at hr; rw [Ha0.out, Hc0.out]; exact hr
            have HSl : Hid (∀ g, (Value.slice a0 ys.length c0).ownBlock = some g → M1.lab g = 19 + q) := by have hr := HM3.out.ll q hqn; dsimp only at hr; rw [upd_self] at hr; rw [Ha0.out, Hc0.out]; exact hr
            have HLL : Hid (ys.length + 1 ≤ maxLen ∧ (ys.length + 1) * 16 ≤ 140737488355328) := by have := HYl.out; constructor <;> (try unfold maxLen) <;> omega
            have hsz3 : n0 ≤ w3.heap.size := HM3.out.size
            have hbl : b < w3.heap.size := by obtain ⟨_, hc⟩ := HM3.out.cl; exact lt_of_block hc.blk
            have hgl : g1 < w3.heap.size := by obtain ⟨_, _, e, _, hh, _⟩ := (HCr.out.kept KC.out).block (by simp); cases e; exact lt_of_block hh
            have hAl : A < w3.heap.size := lt_of_block (KC.out.block _ _ HAr.out (fun x => x))
            clear s0 s1 d0 d1
            go_upto_region 10 with fail
            go_region_law (refine step_append_at rfl (.tmp 71) (.tmp 77) 54 54 rfl n0 9 j0 (.string ⟨#[]⟩) 1 16 Try.underlying54 hj9 hy0 hy1 hy2 rfl (.slice a0 ys.length c0) ys.length (tdCells ys) (by simp [Act.eval]) (World.ownsRow.alloc (w := w3.drew) HO3.out _) (.slice (some ⟨w3.heap.size, 0, none⟩) 1 1) 1 [.string (bs v)] (by simp [Act.eval]) (oneT_src w3.drew v) HLL.out.1 HLL.out.2 (le_alloc (w := w3.drew) hsz3 _) ?_; intro a6 c6 w6 ho6 hg6 hat6; have HO6 : Hid (OwnTd n0 w6 a6 c6 (ys ++ [v])) := OwnTd.push ho6; have K6 : Hid (Kept (TS M1.lab n0 (19 + q)) w3 w6) := ((Kept.refl _ _).drew.alloc _).grownT hg6 (fun g hg o ho => by have hl := World.ownsRow.lt HO3.out g hg; have hb := HO3.out.2; rcases hb with ⟨e1, _⟩ | ⟨g', _, _, e1, _, hb2, _⟩; (rw [e1] at hg; simp [Value.ownBlock] at hg); (rw [e1] at hg; have e2 : g' = g := (by simpa [Value.ownBlock] using hg); subst e2; rw [hb2] at ho; cases ho; exact ⟨⟨HSl.out g' (by rw [e1]; rfl), hl.1⟩, _, rfl⟩)); have HA6 : Hid (∀ g, (Value.slice a6 (ys.length + 1) c6).ownBlock = some g → M1.lab g = 19 + q ∨ w3.heap.size ≤ g) := (fun g hg => by rcases hat6 g hg with h | h; exact .inl (HSl.out g h); exact .inr (by simp at h; omega)); have HC6 := K6.out; have s6 : w6.cell? ⟨b, 18 + q, none⟩ = some (.slice a0 ys.length c0) := (by obtain ⟨cells, hc⟩ := HM3.out.cl; rw [blk_cell (HC6.block _ _ hc.blk (by rintro ⟨_, _, e⟩; simp at e)), ← blk_cell hc.blk]; exact rc); have f6 : w6.frozen? ⟨b, 18 + q, none⟩ = false := (by obtain ⟨cells, hc⟩ := HM3.out.cl; exact blk_free (HC6.block _ _ hc.blk (by rintro ⟨_, _, e⟩; simp at e)) _); clear ho6 hg6 hat6 HC6)
            all_goals
              have hlen : (ys ++ [v]).length = ys.length + 1 := by rw [List.length_append]; rfl
              have HB6 : Hid (∃ cells, w6.heap[b]? = some (.cells cells 58 (0, 0))) := by obtain ⟨cells, hc⟩ := HM3.out.cl; exact ⟨cells, K6.out.block _ _ hc.blk (by rintro ⟨_, _, e⟩; simp at e)⟩
              have HF : Hid (∃ M2, TkM n0 (w6.setCell ⟨b, 18 + q, none⟩ (.slice a6 (ys.length + 1) c6)) b { T1 with cm := upd T1.cm q (xs ++ (lc.take (n + 1)).map Pc.bd) } M2) := by
                refine ⟨_, HM3.out.texts (l := 19 + q) (by omega) K6.out (c := 18 + q) (by omega) HO6.out (by rw [hlen]; exact HA6.out) (by rw [hlen]) _ _ (.inr ⟨q, hqn, rfl, rfl, ?_, rfl⟩)⟩
                congr 1
                funext z
                by_cases e : z = q
                · subst e; rw [upd_self, upd_self, HYs.out, Hv.out, List.take_succ_eq_append_getElem hlt, List.map_append, List.map_singleton, List.append_assoc]
                · show upd T1.cm q _ z = upd (upd T1.cm q ys) q _ z
                  rw [upd_ne _ _ e, upd_ne _ _ e, upd_ne _ _ e]
              have KF : Hid (Kept (Ge n0) w (w6.setCell ⟨b, 18 + q, none⟩ (.slice a6 (ys.length + 1) c6))) := (((HKr.out.trans (KC.out.mono (fun _ _ x => x.elim))).trans (K6.out.mono ts_ge))).setT (fun _ _ => HM1.out.nb) _ _
              have HCf : Hid (OwnPc W.heap.size (w6.setCell ⟨b, 18 + q, none⟩ (.slice a6 (ys.length + 1) c6)) (some ⟨g1, 0, none⟩) c1 lc) := by obtain ⟨cells, hb⟩ := HB6.out; exact own_setTy hb (own_kept (HCr.out.kept KC.out) K6.out (by rintro q cs _ ⟨_, _, e⟩; simp at e)) (by decide)
              have HPf : Hid (OwnPk W.heap.size (w6.setCell ⟨b, 18 + q, none⟩ (.slice a6 (ys.length + 1) c6)) a2 c2 la) := by obtain ⟨cells, hb⟩ := HB6.out; exact own_setTy hb (own_kept (HPr.out.kept KC.out) K6.out (by rintro q cs _ ⟨_, _, e⟩; simp at e)) (by decide)
              have HAf : Hid ((w6.setCell ⟨b, 18 + q, none⟩ (.slice a6 (ys.length + 1) c6)).heap[A]? = some (.cells #[.int .i64 p.fr, .int .i64 p.ds, .int .i64 p.nu, .bool p.ak, .string (bs p.bd)] 34 (0, 0))) := by
                have h6 := K6.out.block _ _ (KC.out.block _ _ HAr.out (fun x => x)) (by rintro ⟨_, _, e⟩; simp at e)
                obtain ⟨cells, hb⟩ := HB6.out
                exact blk_other h6 (fun e => by rw [e, hb] at h6; simp at h6) _
              clear hlen
              go_wp2
              go_roundw
              case rel => exact ⟨n + 1, by omega, by go_num, HCf.out, HPf.out, HF.out, KF.out, HAf.out⟩
              case measure => simp [intOf]; omega
        · obtain rfl : n = lc.length := by omega
          have hirr : ¬ (lc.length : Int) < lc.length := by omega
          go_wp2
          go_meet
          refine ⟨HPr.out, ?_, HKr.out, HAr.out⟩
          have := HMr.out
          rw [List.take_length] at this
          exact this
    case rest =>
      obtain ⟨HP4, HM4, K4, HA4⟩ := hcut
      rename World => w4
      obtain ⟨M4, hM4⟩ := HM4.out
      have HM4 : Hid (TkM n0 w4 b { T1 with cm := upd T1.cm q (xs ++ lc.map Pc.bd) } M4) := hM4
      obtain ⟨T4, HT4⟩ : ∃ t : Tk, Hid (t = { T1 with cm := upd T1.cm q (xs ++ lc.map Pc.bd) }) := ⟨_, rfl⟩
      rw [← HT4.out] at HM4
      obtain ⟨-, -, -, -, r4A, -, -⟩ := HM4.out.reads
      have r4 := r4A r hrn
      clear r4A
      obtain ⟨m, Hm⟩ : ∃ m, Hid (m = T.kn r) := ⟨_, rfl⟩
      rw [show T4.kn r = m by rw [HT4.out, HT1.out, Hm.out]] at r4
      have s0 : w4.cell? ⟨A, 0, none⟩ = some (.int .i64 p.fr) := blk_at HA4.out 0 rfl
      have s1 : w4.cell? ⟨A, 1, none⟩ = some (.int .i64 p.ds) := blk_at HA4.out 1 rfl
      have s2 : w4.cell? ⟨A, 2, none⟩ = some (.int .i64 p.nu) := blk_at HA4.out 2 rfl
      have s3 : w4.cell? ⟨A, 3, none⟩ = some (.bool p.ak) := blk_at HA4.out 3 rfl
      obtain ⟨tt, Htt⟩ : ∃ x : Bool, Hid (x = (p.ak && decide ((m : Int) < p.nu))) := ⟨_, rfl⟩
      clear hM4 HC2 HP2 HM2 K2 HA2
      go_upto_region 12 with fail
      go_cut [102] (fun x wc => x = .bool tt ∧ Hid (Kept Nil w4 wc))
      case first =>
        rcases Bool.eq_false_or_eq_true p.ak with hak | hak
        · rw [hak] at s3
          by_cases hlt : (m : Int) < p.nu
          · have HF : Hid (tt = true) := by show _ = _; rw [Htt.out, hak, decide_eq_true hlt]; rfl
            have hd1 : decide ((m : Int) < p.nu) = true := decide_eq_true hlt
            clear hak
            go_quiet (fail)
            go_wp2
            go_meet
            exact ⟨by rw [HF.out], (Kept.refl _ _).drewN _⟩
          · have HF : Hid (tt = false) := by show _ = _; rw [Htt.out, hak, decide_eq_false hlt]; rfl
            have hd1 : decide ((m : Int) < p.nu) = false := decide_eq_false hlt
            clear hak
            go_quiet (fail)
            go_wp2
            go_meet
            exact ⟨by rw [HF.out], (Kept.refl _ _).drewN _⟩
        · rw [hak] at s3
          have HF : Hid (tt = false) := by show _ = _; rw [Htt.out, hak]; rfl
          clear hak
          go_quiet (fail)
          go_wp2
          go_meet
          exact ⟨by rw [HF.out], (Kept.refl _ _).drewN _⟩
      case rest =>
        obtain ⟨rfl, KC⟩ := hcut
        rename World => w5
        have HM5 : Hid (TkM n0 w5 b T4 M4) := HM4.out.kept KC.out
        have HP5 : Hid (OwnPk W.heap.size w5 a2 c2 la) := HP4.out.kept KC.out
        have K5 : Hid (Kept (Ge n0) w w5) := K4.out.trans (KC.out.mono (fun _ _ x => x.elim))
        have t2 : w5.cell? ⟨A, 2, none⟩ = some (.int .i64 p.nu) := cell_kept KC.out (fun _ x => x) s2
        have t4 : w5.cell? ⟨b, 34 + r, none⟩ = some (.int .i64 m) := cell_kept KC.out (fun _ x => x) r4
        have f4' : w5.frozen? ⟨b, 34 + r, none⟩ = false := by obtain ⟨-, -, -, -, -, rf, -⟩ := HM5.out.reads; exact rf _
        clear s0 s1 s2 s3 r4
        go_upto_if 102 with fail
        go_cut [] (fun wc => Hid (OwnPk W.heap.size wc a2 c2 la) ∧ Hid (TkM n0 wc b { T4 with kn := upd T4.kn r (if p.ak = true ∧ (m : Int) < p.nu then p.nu.toNat else m) } M4) ∧ Hid (Kept (Ge n0) w wc))
        case first =>
          cases tt with
          | false =>
            have HE : Hid ((if p.ak = true ∧ (m : Int) < p.nu then p.nu.toNat else m) = T4.kn r) := by
              show _ = _
              rw [if_neg (fun x => by have := Htt.out; rw [x.1, decide_eq_true x.2] at this; cases this), HT4.out, HT1.out, Hm.out]
            go_wp2
            go_meet
            exact ⟨HP5.out, by rw [HE.out, upd_id]; exact HM5.out, K5.out⟩
          | true =>
            have HE : Hid ((if p.ak = true ∧ (m : Int) < p.nu then p.nu.toNat else m) = p.nu.toNat) := by
              show _ = _
              have := Htt.out
              simp only [Bool.true_eq, Bool.and_eq_true, decide_eq_true_eq] at this
              rw [if_pos this]
            go_upto_region 13 with fail
            go_region
            have en : ((p.nu.toNat : Nat) : Int) = p.nu := by omega
            have HM6 : Hid (TkM n0 (w5.setCell ⟨b, 34 + r, none⟩ (.int .i64 p.nu)) b { T4 with kn := upd T4.kn r p.nu.toNat } M4) := HM5.out.cell (Kept.refl _ _) _ _ (.inr ⟨r, p.nu.toNat, hrn, rfl, by rw [en], HM5.out.wy, rfl, rfl⟩)
            have HP6 : Hid (OwnPk W.heap.size (w5.setCell ⟨b, 34 + r, none⟩ (.int .i64 p.nu)) a2 c2 la) := by obtain ⟨cells, hc⟩ := HM5.out.cl; exact own_setTy hc.blk HP5.out (by decide)
            have K6 : Hid (Kept (Ge n0) w (w5.setCell ⟨b, 34 + r, none⟩ (.int .i64 p.nu))) := K5.out.setT (fun _ _ => HM5.out.nb) _ _
            go_wp2
            go_meet
            exact ⟨HP6.out.kept (Kept.refl _ _).drew, by rw [HE.out]; exact HM6.out.kept (Kept.refl _ _).drew, K6.out.drew⟩
        case rest =>
          obtain ⟨HP6, HM6, K6⟩ := hcut
          rename World => w6
          obtain ⟨T6, HT6⟩ : ∃ t : Tk, Hid (t = { T4 with kn := upd T4.kn r (if p.ak = true ∧ (m : Int) < p.nu then p.nu.toNat else m) }) := ⟨_, rfl⟩
          rw [← HT6.out] at HM6
          obtain ⟨-, r1, -, -, -, rf, -⟩ := HM6.out.reads
          have rf1 : w6.frozen? ⟨b, 1, none⟩ = false := rf _
          obtain ⟨wl, Hwl⟩ : ∃ l, Hid (l = T.way) := ⟨_, rfl⟩
          have HWe : Hid (T6.way = wl) := by show _ = _; rw [HT6.out, HT4.out, HT1.out, Hwl.out]
          rw [HWe.out] at r1
          have HWr : Hid (w6.ownsRow n0 34 5 (.slice M4.wa wl.length M4.wc) wl.length (pkCells wl)) := by have := HM6.out.wy; rw [HWe.out] at this; exact this
          rw [← Hwl.out] at hzw
          obtain ⟨wa, Hwa⟩ : ∃ a, Hid (a = M4.wa) := ⟨_, rfl⟩
          obtain ⟨wc0, Hwc⟩ : ∃ a, Hid (a = M4.wc) := ⟨_, rfl⟩
          rw [← Hwa.out, ← Hwc.out] at r1 HWr
          have SR := HP6.out.src
          have HLL : Hid (wl.length + la.length ≤ maxLen ∧ (wl.length + la.length) * 48 ≤ 140737488355328) := by constructor <;> (try unfold maxLen) <;> omega
          obtain ⟨i2, hi2, hx0, hx1, hx2⟩ := info_parts Try.infoOwnPk
          have hsz6 : n0 ≤ w6.heap.size := HM6.out.size
          have hla2 : (la.length : Int) < 2 := by omega
          clear rf t2 t4 f4'
          go_wp2_with (at_builtin; go_must (refine wpList_append_src _ rfl _ _ 28 28 rfl n0 34 i2 (.agg #[.int .i64 0, .int .i64 0, .int .i64 0, .bool false, .string ⟨#[]⟩]) 5 48 Try.underlying28 hi2 hx0 hx1 hx2 rfl (.slice wa wl.length wc0) wl.length (pkCells wl) rfl HWr.out (.slice a2 la.length c2) la.length (pkCells la) rfl SR HLL.out.1 HLL.out.2 hsz6 ?_); intro a7 c7 w7 ho7 hg7; have HO7 : Hid (OwnPk n0 w7 a7 c7 (wl ++ la)) := OwnPk.app rfl rfl ho7; have K7 : Hid (Kept (TW n0) w6 w7) := (Kept.refl _ _).grownT hg7 (fun g hg o ho => by have hl := World.ownsRow.lt HWr.out g hg; have hb := HWr.out.2; rcases hb with ⟨e1, _⟩ | ⟨g', _, _, e1, _, hb2, _⟩; (rw [e1] at hg; simp [Value.ownBlock] at hg); (rw [e1] at hg; have e2 : g' = g := (by simpa [Value.ownBlock] using hg); subst e2; rw [hb2] at ho; cases ho; exact ⟨hl.1, _, rfl⟩)); have r7 : w7.cell? ⟨b, 1, none⟩ = some (.slice wa wl.length wc0) := (by obtain ⟨cells, hc⟩ := HM6.out.cl; rw [blk_cell (K7.out.block _ _ hc.blk (by rintro ⟨_, _, e⟩; simp at e)), ← blk_cell hc.blk]; exact r1); have rf7 : w7.frozen? ⟨b, 1, none⟩ = false := (by obtain ⟨cells, hc⟩ := HM6.out.cl; exact blk_free (K7.out.block _ _ hc.blk (by rintro ⟨_, _, e⟩; simp at e)) _); clear ho7 hg7)
          go_ret
          refine ⟨by first | rfl | simp, ⟨_, HM6.out.cell K7.out _ _ (.inl ⟨a7, c7, wl ++ la, rfl, by rw [List.length_append], HO7.out, ?_, rfl⟩)⟩, ((K6.out.trans (K7.out.mono tw_ge))).setT (fun _ _ => HM6.out.nb) _ _⟩
          rw [HT6.out, HT4.out, HT1.out, Hwl.out, HLa.out, HLc.out, Hxs.out, Hm.out, Hq.out, Hr.out, HOo.out]
          rfl
end Go.Proofs.Ytmlncfnnldplgaa
