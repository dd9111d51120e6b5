/-
  RelayOnce: the law's send.
-/
import Derived.Test.YtmlncfnnldplgaaWRo3
import Derived.Deep.DeepCutAuto
namespace Go.Proofs.Ytmlncfnnldplgaa
open Go.RowKit

theorem oth_pair {i j : Nat} (_ : i < 3) (hj : j < 3) (hij : i ≠ j) : isOth ((i + 1 : Nat) : Int) ((j + 1 : Nat) : Int) = true := by
  unfold isOth isNd
  simp only [Bool.and_eq_true, decide_eq_true_eq, Bool.not_eq_true', decide_eq_false_iff_not]
  omega
theorem OwnTd.push {B c : Nat} {w : World} {ao : Option Addr} {l : List (List UInt8)} {x : List UInt8} (h : w.ownsRow B 9 1 (.slice ao (l.length + 1) c) (l.length + 1) (tdCells l ++ [.string (bs x)])) : OwnTd B w ao c (l ++ [x]) := OwnTd.app (gs := [x]) rfl rfl h
set_option maxRecDepth 100000 in
set_option maxHeartbeats 4000000 in
theorem tsend_any (n0 b i j : Nat) (T : Tk) (body : List UInt8) (w : World) (h : TkAt n0 w b T) (I : TkI T) (hi : i < 3) (hj : j < 3) (hij : i ≠ j) (hz : ∀ k, (T.sn k).length ≤ 1000000) :
    Calls Try.prog 17 #[.pointer (some ⟨b, 0, none⟩), .int .i64 i, .int .i64 j, .string (bs body)] w fun e w' => e = .returned (.bool true) ∧ TkAt n0 w' b (T.send i j body) ∧ Kept (Ge n0) w w' := by
  obtain ⟨M, hM⟩ := h
  have HM : Hid (TkM n0 w b T M) := hM
  obtain ⟨r0, r1, r2, r3, r4, rf, rh⟩ := hM.reads
  have hhl := hM.hl
  obtain ⟨q, Hq⟩ : ∃ q, Hid (q = 4 * i + j) := ⟨_, rfl⟩
  have hq : 4 * (i : Int) + (j : Int) = (q : Int) := by have := Hq.out; omega
  have hqi : (q : Int) < 16 := by omega
  have hqn : q < 16 := by omega
  have hi3 : (i : Int) < 3 := by omega
  have hj3 : (j : Int) < 3 := by omega
  have h0 := rh i hi
  have hwl := I.wtlen hi hj hij
  have hw16 := (I.pr i j hi hj hij).2.2.2
  have hle := I.le (4 * i + j) (by omega)
  rw [← Hq.out] at hwl hle
  have hzq := hz q
  have ej : ((j + 1 : Nat) : Int) = (j : Int) + 1 := by omega
  obtain ⟨m, Hm⟩ : ∃ m, Hid (m = T.kn q) := ⟨_, rfl⟩
  obtain ⟨xs, Hxs⟩ : ∃ l, Hid (l = T.sn q) := ⟨_, rfl⟩
  obtain ⟨a0, Ha0⟩ : ∃ a, Hid (a = M.sa q) := ⟨_, rfl⟩
  obtain ⟨c0, Hc0⟩ : ∃ a, Hid (a = M.sc q) := ⟨_, rfl⟩
  have hkn : m ≤ xs.length := by rw [Hm.out, Hxs.out]; omega
  rw [← Hxs.out] at hzq
  by_cases hf : 16 ≤ xs.length - m
  · have HE : Hid (T.send i j body = T) := by show _ = _; unfold Tk.send; rw [← Hq.out, ← Hxs.out, ← Hm.out, if_pos hf]
    have SF := send_full _ _ (j + 1) _ body _ _ _ w (HM.out.rl i hi) (by omega) (oth_pair hi hj hij) (by rw [← Hxs.out, ← Hm.out] at hwl; omega)
    rw [ej] at SF
    have s2 : w.cell? ⟨b, 2 + q, none⟩ = some (.slice a0 xs.length c0) := by rw [r2 q hqn, Ha0.out, Hc0.out, Hxs.out]
    have s4 : w.cell? ⟨b, 34 + q, none⟩ = some (.int .i64 m) := by rw [r4 q hqn, Hm.out]
    have hd : decide ((xs.length : Int) - (m : Int) ≥ 16) = true := decide_eq_true (by omega)
    have hd2 : (16 : Int) ≤ (xs.length : Int) - (m : Int) := by omega
    clear hM r2 r3 r4 rh hwl hle hz
    go_enter Try.func17, Try.ntmps17
    go_wp2_with fail
    go_fit SF
    rintro e _ ⟨rfl, hw9⟩
    rw [hw9]
    clear hw9 SF
    go_upto_region 3 with fail
    go_quiet (fail)
    go_wp2
    go_ret
    exact ⟨rfl, by rw [HE.out]; exact ⟨M, HM.out.kept ((Kept.refl _ _).drewN _)⟩, (Kept.refl _ _).drewN _⟩
  · have HE : Hid (T.send i j body = { T with os := updO T.os i (j + 1) (sendO (T.os i (j + 1)) body), sn := upd T.sn q (xs ++ [body]) }) := by show _ = _; unfold Tk.send; rw [← Hq.out, ← Hxs.out, ← Hm.out, if_neg hf]
    have SF := send_yes _ _ (j + 1) _ body _ _ _ w (HM.out.rl i hi) (by omega) (oth_pair hi hj hij) (by rw [← Hxs.out, ← Hm.out] at hwl; omega)
    rw [ej] at SF
    clear hM r2 r3 r4 rf hwl hle hz
    go_enter Try.func17, Try.ntmps17
    go_wp2_with fail
    go_fit SF
    rintro e w2 ⟨rfl, ⟨a2, c2, x2⟩, k2⟩
    obtain ⟨M2, HM2e⟩ : ∃ M2 : Mm, Hid (M2 = { M with ax := upd M.ax i (upd (M.ax i) (j + 1) a2), cx := upd M.cx i (upd (M.cx i) (j + 1) c2), lab := nlab M.lab w.heap.size i }) := ⟨_, rfl⟩
    obtain ⟨T2, HT2e⟩ : ∃ T2 : Tk, Hid (T2 = { T with os := updO T.os i (j + 1) (sendO (T.os i (j + 1)) body) }) := ⟨_, rfl⟩
    have HM2 : Hid (TkM n0 w2 b T2 M2) := by rw [HM2e.out, HT2e.out]; exact HM.out.relay hi k2 x2
    have K2 : Hid (Kept (Ge n0) w w2) := k2.mono (tx_ge HM.out hi)
    obtain ⟨_, _, r2, _, r4, rf, _⟩ := HM2.out.reads
    have s2 : w2.cell? ⟨b, 2 + q, none⟩ = some (.slice a0 xs.length c0) := by rw [r2 q hqn, Ha0.out, Hc0.out, Hxs.out, HM2e.out, HT2e.out]
    have s4 : w2.cell? ⟨b, 34 + q, none⟩ = some (.int .i64 m) := by rw [r4 q hqn, Hm.out, HT2e.out]
    have f2 : w2.frozen? ⟨b, 2 + q, none⟩ = false := rf _
    have hd2 : ¬ (16 : Int) ≤ (xs.length : Int) - (m : Int) := by omega
    have hd : decide ((16 : Int) ≤ (xs.length : Int) - (m : Int)) = false := decide_eq_false hd2
    have HO : Hid (OwnTd n0 w2 a0 c0 xs) := by have hr := HM2.out.sr q hqn; rw [HM2e.out, HT2e.out] at hr; rw [Ha0.out, Hc0.out, Hxs.out]; exact hr
    have HSl : Hid (∀ g, (Value.slice a0 xs.length c0).ownBlock = some g → M2.lab g = 3 + q) := by have hr := HM2.out.sl q hqn; rw [HM2e.out, HT2e.out] at hr; rw [Ha0.out, Hc0.out, Hxs.out, HM2e.out]; exact hr
    clear SF k2 x2 r2 r4 rf r0 r1 rh h0
    go_upto_region 3 with fail
    go_cut [40] (fun x wc => x = .bool false ∧ Hid (Kept Nil w2 wc))
    case first =>
      go_quiet (fail)
      go_wp2
      go_meet
      exact ⟨by first | rfl | (rw [hd]), (Kept.refl _ _).drewN _⟩
    case rest =>
      obtain ⟨rfl, KC⟩ := hcut
      rename World => w3
      have s3 : w3.cell? ⟨b, 2 + q, none⟩ = some (.slice a0 xs.length c0) := cell_kept KC.out (fun _ x => x) s2
      have HM3 : Hid (TkM n0 w3 b T2 M2) := HM2.out.kept KC.out
      have HO3 : Hid (w3.ownsRow n0 9 1 (.slice a0 xs.length c0) xs.length (tdCells xs)) := HO.out.kept KC.out
      have hsz3 : n0 ≤ w3.heap.size := HM3.out.size
      obtain ⟨j0, hj9, hy0, hy1, hy2⟩ := info_parts Try.infoTd
      have HLL : Hid (xs.length + 1 ≤ maxLen ∧ (xs.length + 1) * 16 ≤ 140737488355328) := by constructor <;> (try unfold maxLen) <;> omega
      have hbl : b < w3.heap.size := by obtain ⟨_, hc⟩ := HM3.out.cl; exact lt_of_block hc.blk
      clear s2 s4 f2
      go_upto_region 5 with fail
      go_region_law (refine step_append_at rfl (.tmp 50) (.tmp 52) 54 54 rfl n0 9 j0 (.string ⟨#[]⟩) 1 16 Try.underlying54 hj9 hy0 hy1 hy2 rfl (.slice a0 xs.length c0) xs.length (tdCells xs) (by simp [Act.eval]) (World.ownsRow.alloc (w := w3.drew) HO3.out _) (.slice (some ⟨w3.heap.size, 0, none⟩) 1 1) 1 [.string (bs body)] (by simp [Act.eval]) (oneT_src w3.drew body) HLL.out.1 HLL.out.2 (le_alloc (w := w3.drew) hsz3 _) ?_; intro a6 c6 w6 ho6 hg6 hat6; have HO6 : Hid (OwnTd n0 w6 a6 c6 (xs ++ [body])) := OwnTd.push ho6; have K6 : Hid (Kept (TS M2.lab n0 (3 + q)) w3 w6) := ((Kept.refl _ _).drew.alloc _).grownT hg6 (fun g hg o ho => by have hl := World.ownsRow.lt HO3.out g hg; have hb := HO3.out.2; rcases hb with ⟨e1, _⟩ | ⟨g', _, _, e1, _, hb2, _⟩; (rw [e1] at hg; simp [Value.ownBlock] at hg); (rw [e1] at hg; have e2 : g' = g := (by simpa [Value.ownBlock] using hg); subst e2; rw [hb2] at ho; cases ho; exact ⟨⟨HSl.out g' (by rw [e1]; rfl), hl.1⟩, _, rfl⟩)); have HA6 : Hid (∀ g, (Value.slice a6 (xs.length + 1) c6).ownBlock = some g → M2.lab g = 3 + q ∨ w3.heap.size ≤ g) := (fun g hg => by rcases hat6 g hg with h | h; exact .inl (HSl.out g h); exact .inr (by simp at h; omega)); have HC6 := K6.out; have s6 : w6.cell? ⟨b, 2 + q, none⟩ = some (.slice a0 xs.length c0) := (by obtain ⟨cells, hc⟩ := HM3.out.cl; rw [blk_cell (HC6.block _ _ hc.blk (by rintro ⟨_, _, e⟩; simp at e)), ← blk_cell hc.blk]; exact s3); have f6 : w6.frozen? ⟨b, 2 + q, none⟩ = false := (by obtain ⟨cells, hc⟩ := HM3.out.cl; exact blk_free (HC6.block _ _ hc.blk (by rintro ⟨_, _, e⟩; simp at e)) _); clear ho6 hg6 hat6 HC6)
      all_goals
        have hlen : (xs ++ [body]).length = xs.length + 1 := by rw [List.length_append]; rfl
        have HF : Hid (TkAt n0 (w6.setCell ⟨b, 2 + q, none⟩ (.slice a6 (xs.length + 1) c6)) b (T.send i j body)) := by
          rw [HE.out]
          exact ⟨_, HM3.out.texts (l := 3 + q) (by omega) K6.out (c := 2 + q) (by omega) HO6.out (by rw [hlen]; exact HA6.out) (by rw [hlen]) _ _ (.inl ⟨q, hqn, rfl, rfl, by rw [HT2e.out], rfl⟩)⟩
        have KF : Hid (Kept (Ge n0) w (w6.setCell ⟨b, 2 + q, none⟩ (.slice a6 (xs.length + 1) c6))) := HM.out.ges ((K2.out.trans (KC.out.mono (fun _ _ x => x.elim))).trans (K6.out.mono ts_ge))
        clear hlen
        go_wp2
        go_ret
        exact ⟨rfl, HF.out, KF.out⟩
end Go.Proofs.Ytmlncfnnldplgaa
